/- texts merged -/
import Derived.Test.YtcmnecnbcohaeaaGreatDoorGtB4
import Derived.Test.YtcmnecnbcohaeaaGreatDoorNnN1
import Derived.Test.YtcmnecnbcohaeaaGreatDoorGtB3
import Derived.Test.YtcmnecnbcohaeaaGreatDoorGtB1
import Derived.Deep.Cut
import Derived.Laws.ResultCell
import Derived.Test.YtcmnecnbcohaeaaGreatDoorGtB5
namespace Go.Proofs.YtcmnecnbcohaeaaGreatDoor
section
open Go.RowKit Ns Ow
namespace Fg
theorem region_p {P : Program} {ops : Array Oper} {Q : Exit → Act → World → Prop} {a0 : Act} {id : Nat} {w : World} (ps : List Nat) (L : List It) (W0 : World) (k : Nat) (hB0 : W0.grownBy w none) (_hm : P.follows .mixedOrders = true) (ht : topo ops = true) (ho : once (ops.extract 0 k) a0.tmps.size = true) (_htl : 0 = 0) (hk : k ≤ ops.size)
    (hu : (ps.all fun s => match a0.tmps.getD s undef with | .pointer _ => false | _ => true) = true)
    (steps : StepsS k ps P Q L (fun w => W0.grownBy w none) a0 ops 0 (ops.toList.take k))
    (fin : ∀ a w', W0.grownBy w' none → a.tmps.size = a0.tmps.size → a.defers = a0.defers → (∀ d, isDstTo ops k d = false → a.tmps.getD d undef = a0.tmps.getD d undef) →
      (∀ d, isDstTo ops k d = true → its L d (a.tmps.getD d undef) w') → PtrsApart ps a w' → wpList P ops Q (ops.toList.drop k) a w') : (Code.region id ops false).wp P Q a0 w :=
  wp_region_plain L (fun w => W0.grownBy w none) k hB0 ht ho hk (ptrs_undef hu) steps fin
end Fg
namespace Nr
theorem stE {ρ : Operand → Value} {o : Oper} {w : World} {x y : Operand} {B : Nat} {a : Fe} {L : List Value} (ho : o.op = .store 27 x y) (hx : ρ x = .pointer (some ⟨B, 0, none⟩)) (hy : ρ y = a.v) (h : Blk w B 27 L) (hL : L.length = 5) : (execOp ρ o).run Tryz.prog w = .ok .skip (w.setCells B 0 (feL a)) :=
  Fg.run_store ho hx hy (h.there 0 5 (by rw [hL]; decide)) info_elem5 rfl
theorem storedE {w : World} {B : Nat} {a : Fe} {L : List Value} (h : Blk w B 27 L) (hL : L.length = 5) : Blk (w.setCells B 0 (feL a)) B 27 (feL a) := h.setAll (by rw [hL]; rfl)
theorem c_inv (a : Fe) (w : World) (h : a.Ok) : Calls Tryz.prog 23 #[a.v] w fun e w' => e = .returned (invF a).v ∧ w.grownBy w' none := feOut_and (Go.Proofs.YtcmnecnbcohaeaaGreatDoor.invert_any a w h)
theorem c_root (a b : Fe) (w : World) (hT : FTab w) (ha : a.Ok) (hb : b.Ok) : Calls Tryz.prog 20 #[a.v, b.v] w fun e w' => e = .returned (.tuple #[(rootF a b).1.v, .bool (rootF a b).2]) ∧ w.grownBy w' none :=
  (root_all a b w hT ha hb).mono fun _ _ ⟨r, hr, he, hg⟩ => ⟨by rw [he, hr.out]; rfl, hg⟩
theorem c_rroot (a b : Fe) (w : World) : Calls Tryz.prog 45 #[nV (num a.m), nV (num b.m)] w (Out2 (refRoot (num a.m) (num b.m)) w) := root_walk (num a.m) (num b.m) w (num_whole _) (num_whole _) (num_len _) (num_len _)
theorem c_rinv (a : Fe) (w : World) : Calls Tryz.prog 46 #[nV (num a.m)] w (Out (rU (num a.m)) w) := invert_any (num a.m) w (num_whole _) (num_len _)
theorem rU_is (a : Fe) : rU (num a.m) = num (a.m ^ Fe.eInv) := by
  unfold rU
  rw [exp_inv, num_iff, V_num, ← Nat.pow_mod]
theorem is_inv {a : Fe} (w : World) (ha : a.Right) : Calls Tryz.prog 10 #[(invF a).v, nV (rU (num a.m))] w fun e w' => e = .returned (.bool true) ∧ w.grownBy w' none := by
  rw [rU_is]
  exact c_is (invF a) (a.m ^ Fe.eInv) w (inv_right a) (inv_pw ha).mi
theorem rootF_right {a b : Fe} (hb : b.Right) : (rootF a b).1.Right := by
  cases h : (rootF a b).2 with
  | true => exact (root_says hb h).1
  | false => rw [root_not h]; exact zero_right
theorem is_root {a b : Fe} (w : World) (ha : a.Right) (hb : b.Right) (h : (rootF a b).2 = true) : Calls Tryz.prog 10 #[(rootF a b).1.v, nV (refRoot (num a.m) (num b.m)).1] w fun e w' => e = .returned (.bool true) ∧ w.grownBy w' none := by
  rw [(root_same ha hb).2 h]
  exact c_is _ _ w (rootF_right hb) (Nat.mod_eq_of_lt (m_lt _)).symm
theorem varE (w : World) (a : Fe) : Blk ((w.alloc (.cells (feL Fe.zeroF).toArray 27)).setCells w.heap.size 0 (feL a)) w.heap.size 27 (feL a) ∧ w.grownBy ((w.alloc (.cells (feL Fe.zeroF).toArray 27)).setCells w.heap.size 0 (feL a)) none ∧ w.heap.size < ((w.alloc (.cells (feL Fe.zeroF).toArray 27)).setCells w.heap.size 0 (feL a)).heap.size := by
  have h := storedE (a := a) (Blk.new w (feL Fe.zeroF) 27) rfl
  exact ⟨h, gb_setCells_new (gb_alloc (gb_refl w none) _) (Nat.le_refl _) 0, h.lt⟩
theorem rEnd_len (W : List Nat) (y : Nat) : (rEnd W (num y)).1.length = 16 := by
  unfold rEnd
  by_cases h : sqL (num y) = W
  · rw [if_pos h]
    dsimp only
    by_cases ho : V (num y) % 2 = 1
    · rw [if_pos ho]; exact num_len _
    · rw [if_neg ho]; exact num_len _
  · rw [if_neg h]; exact List.length_replicate
theorem refRoot_len (a b : List Nat) : (refRoot a b).1.length = 16 := by
  unfold refRoot
  by_cases h1 : a = zeros
  · rw [if_pos h1]; exact List.length_replicate
  rw [if_neg h1]
  by_cases h2 : b = zeros
  · rw [if_pos h2]; exact List.length_replicate
  rw [if_neg h2]
  unfold rGo
  obtain ⟨y, hy⟩ : ∃ y, rR (rW a b) = num y := ⟨_, rfl⟩
  obtain ⟨z, hz⟩ : ∃ z, rR1 (num y) = num z := ⟨_, rfl⟩
  rw [hy, hz]
  by_cases h3 : sqL (num y) = rW a b
  · rw [if_pos h3]; exact rEnd_len _ _
  · rw [if_neg h3]; exact rEnd_len _ _
structure Roots (a b r : Fe) (o : Bool) (s : List Nat) : Prop where
  ri : r.Right
  len : s.length = 16
  fr : ∀ w, FTab w → Calls Tryz.prog 20 #[a.v, b.v] w fun e w' => e = .returned (.tuple #[r.v, .bool o]) ∧ w.grownBy w' none
  rr : ∀ w, Calls Tryz.prog 45 #[nV (num a.m), nV (num b.m)] w fun e w' => e = .returned (.tuple #[nV s, .bool o]) ∧ w.grownBy w' none
  yes : o = true → ∀ w, Calls Tryz.prog 10 #[r.v, nV s] w fun e w' => e = .returned (.bool true) ∧ w.grownBy w' none
  no : o = false → r = Fe.zeroF
theorem roots_of {a b : Fe} (ha : a.Right) (hb : b.Right) : ∃ r o s, Roots a b r o s :=
  ⟨(rootF a b).1, (rootF a b).2, (refRoot (num a.m) (num b.m)).1, rootF_right hb, refRoot_len _ _, fun w hT => c_root a b w hT ha.ok hb.ok,
    fun w => by rw [← (root_same ha hb).1]; exact c_rroot a b w, fun h w => is_root w ha hb h, fun h => root_not h⟩
theorem run_neE0 {ρ : Operand → Value} {o : Oper} {w : World} {x y : Operand} {t : TypeId} (ho : o.op = .binOp .neq 27 x y t) (hx : ρ x = Fe.zeroF.v) (hy : ρ y = Fe.zeroF.v) : (execOp ρ o).run Tryz.prog w = .ok (.value (.bool false)) w := by
  obtain ⟨j, hj⟩ : ∃ i, Tryz.prog.info? 25 = some i := by
    cases h : Tryz.prog.info? 25 with
    | none => exact absurd h (by have : (Tryz.prog.info? 25).isSome = true := by kernel_rfl
                                 intro e; rw [e] at this; cases this)
    | some i => exact ⟨i, rfl⟩
  have hc : Tryz.prog.cellsOf 25 = 1 := by kernel_rfl
  have hg : ∀ i ∈ List.range 5, (#[Value.int .u64 0, .int .u64 0, .int .u64 0, .int .u64 0, .int .u64 0] : Array Value)[i * 1]? = some (.int .u64 ((fun _ => (0 : Int)) i)) := fun i hi => by
    have := List.mem_range.1 hi
    rcases i with _ | _ | _ | _ | _ | i <;> first | rfl | omega
  have h1 : (Op.equalIn 10000 27 (.agg #[.int .u64 0, .int .u64 0, .int .u64 0, .int .u64 0, .int .u64 0]) (.agg #[.int .u64 0, .int .u64 0, .int .u64 0, .int .u64 0, .int .u64 0])).run Tryz.prog w = .ok true w := by
    rw [run_equalIn_array w 9999 _ _ Tryz.underlying27 hj, hc, n_eqItems w 9998 (by kernel_rfl) Tryz.underlying25 (fun _ => 0) (fun _ => 0) _ _ _ hg hg]
    rfl
  have hgd : Tryz.prog.eqGuardType Tryz.prog.depth 27 = false := by kernel_rfl
  have g : (eqGuard .neq 27 x y (.agg #[.int .u64 0, .int .u64 0, .int .u64 0, .int .u64 0, .int .u64 0]) (.agg #[.int .u64 0, .int .u64 0, .int .u64 0, .int .u64 0, .int .u64 0])).run Tryz.prog w = .ok () w := by
    unfold eqGuard
    simp [hgd]
  unfold execOp
  simp only [ho, hx, hy, Fe.zeroF, Fe.v, Sem.run_bind, g, Result.andThen_ok, run_neq_struct, h1, Sem.run_pure]
  rfl
section
variable {ops : Array Oper} {Q : Exit → Act → World → Prop} {a0 : Act} {w2 : World} {N5 N6 N7 N9 N11 : Nat} {x y s s2 : List Nat} {r2 q b : Fe} {ok2 : Bool}
def gv (q b : Fe) (s2 : List Nat) (ok2 : Bool) : Nat → Value := fun d => if d = 74 then q.v else if d = 75 then nV (num q.m) else if d = 76 then nV (num b.m) else if d = 77 then .tuple #[nV s2, .bool ok2] else if d = 73 then .tuple #[nV s2, .bool ok2] else if d = 78 then nV s2 else .bool ok2
def B12 (w2 : World) (N5 N6 N7 N9 N11 : Nat) (x y s s2 : List Nat) (r2 q : Fe) (ls : Array Bool) (w : World) : Prop :=
  w2.grownBy w none ∧ Blk w N5 31 (pL x) ∧ Blk w N6 31 (pL y) ∧ Blk w N7 27 (feL r2) ∧ Blk w N11 27 (feL q) ∧ Blk w N9 31 (pL (if ls.getD 7 false = true then s2 else s))
theorem ls_other {ls : Array Bool} {i : Nat} (h : i ≠ 7) : (ls.setIfInBounds i true).getD 7 false = ls.getD 7 false := by
  simp [Array.getD_eq_getD_getElem?, h]
theorem ls_this {ls : Array Bool} (h : 7 < ls.size) : (ls.setIfInBounds 7 true).getD 7 false = true := by
  simp [Array.getD_eq_getD_getElem?, h]
theorem B12.grow {ls : Array Bool} {w w' : World} {i : Nat} (h : B12 w2 N5 N6 N7 N9 N11 x y s s2 r2 q ls w) (g : w.grownBy w' none) (hi : i ≠ 7) : B12 w2 N5 N6 N7 N9 N11 x y s s2 r2 q (ls.setIfInBounds i true) w' := by
  unfold B12 at *
  rw [ls_other hi]
  exact ⟨gb_trans h.1 g, h.2.1.gn g, h.2.2.1.gn g, h.2.2.2.1.gn g, h.2.2.2.2.1.gn g, h.2.2.2.2.2.gn g⟩
theorem v12 {i d : Nat} {o : Oper} (hd : o.dst = some d) (hi : i ≠ 7) (hw : o.guard = none)
    (h : ∀ ls a w, FlowAtP (fun d u _ => u = gv q b s2 ok2 d) (fun _ => 0) (fun _ _ _ => True) (B12 w2 N5 N6 N7 N9 N11 x y s s2 r2 q) [] a0 ops ls i o a w → (execOp a.eval o).run Tryz.prog w = .ok (.value (gv q b s2 ok2 d)) w) :
    FlowStepP Tryz.prog Q (fun d u _ => u = gv q b s2 ok2 d) (fun _ => 0) (fun _ _ _ => True) (B12 w2 N5 N6 N7 N9 N11 x y s s2 r2 q) [] a0 ops i o :=
  flowP_value hd fun ls a w hF => ⟨wants_none hw, _, w, h ls a w hF, hF.base.grow (gb_refl w none) hi, fun _ _ h => h, fun _ _ h => h, ptrs_put hF.ptrs (Nat.le_refl _) (fun s hs => by cases hs), rfl⟩
theorem c12 {i d : Nat} {o : Oper} (hd : o.dst = some d) (hi : i ≠ 7) (hw : o.guard = none) (f : FuncId) (args : Array Value)
    (h : ∀ ls a w, FlowAtP (fun d u _ => u = gv q b s2 ok2 d) (fun _ => 0) (fun _ _ _ => True) (B12 w2 N5 N6 N7 N9 N11 x y s s2 r2 q) [] a0 ops ls i o a w → (execOp a.eval o).run Tryz.prog w = .ok (.enter f args) w ∧ Calls Tryz.prog f args w fun e w' => e = .returned (gv q b s2 ok2 d) ∧ w.grownBy w' none) :
    FlowStepP Tryz.prog Q (fun d u _ => u = gv q b s2 ok2 d) (fun _ => 0) (fun _ _ _ => True) (B12 w2 N5 N6 N7 N9 N11 x y s s2 r2 q) [] a0 ops i o :=
  flowP_call hd fun ls a w hF => ⟨wants_none hw, f, args, (h ls a w hF).1, (h ls a w hF).2.mono fun e w' ⟨he, hg⟩ => ⟨_, he, hF.base.grow hg hi, fun _ _ h => h, fun _ _ h => h, ptrs_put hF.ptrs hg.size (fun s hs => by cases hs), rfl⟩⟩
end
set_option maxRecDepth 100000 in
set_option maxHeartbeats 8000000 in
theorem powers_any (a b : Fe) (w0 : World) (hT : FTab w0) (ha : a.Ok) (hb : b.Ok) : Calls Tryz.prog 15 #[a.v, b.v] w0 fun e w' => e = .returned (.bool true) ∧ w0.grownBy w' none := by
  have HT := Lib.hid hT; clear hT
  have HO := Lib.hid (And.intro ha hb); clear ha hb
  have hra := Nr.rB_right HO.out.1
  have hrb := Nr.rB_right HO.out.2
  have cra := fun w => Nr.c_right a w HO.out.1
  have crb := fun w => Nr.c_right b w HO.out.2
  obtain ⟨ra, hrae⟩ : ∃ r, r = Nr.rB a := ⟨_, rfl⟩
  obtain ⟨rb, hrbe⟩ : ∃ r, r = Nr.rB b := ⟨_, rfl⟩
  rw [← hrae] at hra cra
  rw [← hrbe] at hrb crb
  clear hrae hrbe
  have HR := Lib.hid (And.intro hra (And.intro hrb (And.intro cra crb))); clear hra hrb cra crb
  unfold Fe.v
  go_enter Tryz.func15, Tryz.ntmps15
  go_upto_region 1 with (fail)
  show Code.wp _ _ _ _ ((w0.alloc (.cells (feL a).toArray 27)).alloc (.cells (feL b).toArray 27))
  have b1 := (Blk.new w0 (feL a) 27).alloc (.cells (feL b).toArray 27)
  have b2 := blk_at (w0.alloc (.cells (feL a).toArray 27)) (B := w0.heap.size + 1) (feL b) 27 (by simp)
  have g2 := gb_alloc (gb_alloc (gb_refl w0 none) (.cells (feL a).toArray 27)) (.cells (feL b).toArray 27)
  revert g2; revert b2; revert b1
  generalize (w0.alloc (.cells (feL a).toArray 27)).alloc (.cells (feL b).toArray 27) = w2
  intro b1 b2 g2
  have H2 := Lib.hid (And.intro g2 (And.intro b1 b2)); clear g2 b1 b2
  have qa : ∀ w, w2.grownBy w none → Blk w w0.heap.size 27 (feL a) := fun w h => H2.out.2.1.gn h
  have qb : ∀ w, w2.grownBy w none → Blk w (w0.heap.size + 1) 27 (feL b) := fun w h => H2.out.2.2.gn h
  have HB := Lib.hid (And.intro qa qb); clear qa qb
  have p0 := H2.out.2.1.cell (i := 0) rfl
  have p1 := H2.out.2.1.cell (i := 1) rfl
  have p2 := H2.out.2.1.cell (i := 2) rfl
  have p3 := H2.out.2.1.cell (i := 3) rfl
  have p4 := H2.out.2.1.cell (i := 4) rfl
  go_wp2_with fail
  refine (HR.out.2.2.1 w2).mono ?_
  rintro e w3 ⟨rfl, hg3⟩
  have H3 := Lib.hid hg3; clear hg3 p0 p1 p2 p3 p4
  have r0 := (HB.out.2 w3 H3.out).cell (i := 0) rfl
  have r1 := (HB.out.2 w3 H3.out).cell (i := 1) rfl
  have r2 := (HB.out.2 w3 H3.out).cell (i := 2) rfl
  have r3 := (HB.out.2 w3 H3.out).cell (i := 3) rfl
  have r4 := (HB.out.2 w3 H3.out).cell (i := 4) rfl
  cases ra with
  | false =>
    clear r0 r1 r2 r3 r4
    go_upto_region 2 with (fail)
    refine wp_region_lit ?_
    refine Fg.wpl_value (v := a.v) (w' := w3) rfl (ldE rfl rfl (HB.out.1 _ H3.out)) ?_
    simp only [Act.put, List.setIfInBounds_toArray, List.set_cons_succ, List.set_cons_zero]
    refine Fg.wpl_call rfl (Fg.run_call (vs := #[a.v]) rfl rfl (by simp only [List.map_toArray, List.map_cons, List.map_nil, Act.eval] <;> rfl) (Fg.run_enter Tryz.func23 (by kernel_rfl) (by kernel_rfl))) ?_
    refine (c_inv a w3 HO.out.1).mono ?_
    rintro e w5 ⟨rfl, gw5⟩
    refine ⟨_, rfl, ?_⟩
    simp only [Act.put, List.setIfInBounds_toArray, List.set_cons_succ, List.set_cons_zero]
    refine wpList_nil ?_
    have H5 := Lib.hid (gb_trans H3.out gw5); clear gw5
    go_upto_region 3 with (fail)
    refine wp_region_lit ?_
    refine Fg.wpl_value (v := a.v) (w' := w5) rfl (ldE rfl rfl (HB.out.1 _ H5.out)) ?_
    simp only [Act.put, List.setIfInBounds_toArray, List.set_cons_succ, List.set_cons_zero]
    refine Fg.wpl_value (v := b.v) (w' := w5) rfl (ldE rfl rfl (HB.out.2 _ H5.out)) ?_
    simp only [Act.put, List.setIfInBounds_toArray, List.set_cons_succ, List.set_cons_zero]
    refine Fg.wpl_call rfl (Fg.run_call (vs := #[a.v, b.v]) rfl rfl (by simp only [List.map_toArray, List.map_cons, List.map_nil, Act.eval] <;> rfl) (Fg.run_enter Tryz.func20 (by kernel_rfl) (by kernel_rfl))) ?_
    refine (c_root a b w5 (HT.out.grown (gb_trans H2.out.1 H5.out)) HO.out.1 HO.out.2).mono ?_
    rintro e w6 ⟨rfl, gw6⟩
    refine ⟨_, rfl, ?_⟩
    simp only [Act.put, List.setIfInBounds_toArray, List.set_cons_succ, List.set_cons_zero]
    refine wpList_nil ?_
    have H6 := Lib.hid (gb_trans H5.out gw6); clear gw6
    go_upto_region 4 with (fail)
    refine wp_region_lit ?_
    refine Fg.wpl_call rfl (Fg.run_call (vs := #[]) rfl rfl (by simp only [List.map_toArray, List.map_nil]) (Fg.run_enter Tryz.func5 (by kernel_rfl) (by kernel_rfl))) ?_
    refine (awake_any w6 (HT.out.grown (gb_trans H2.out.1 H6.out))).mono ?_
    rintro e w7 ⟨rfl, gw7⟩
    refine ⟨_, rfl, ?_⟩
    simp only [Act.put, List.setIfInBounds_toArray, List.set_cons_succ, List.set_cons_zero]
    refine Fg.wpl_value (v := .bool true) (w' := w7) rfl (Fg.run_assign rfl rfl) ?_
    simp only [Act.put, List.setIfInBounds_toArray, List.set_cons_succ, List.set_cons_zero]
    refine wpList_nil ?_
    have H7 := Lib.hid (gb_trans (gb_trans H2.out.1 H6.out) gw7); clear gw7
    go_wp2
    go_ret
    exact ⟨rfl, H7.out⟩
  | true =>
    go_wp2_with fail
    refine (HR.out.2.2.2 w3).mono ?_
    rintro e w4 ⟨rfl, hg4⟩
    have H4 := Lib.hid (gb_trans H3.out hg4); clear hg4 r0 r1 r2 r3 r4
    cases rb with
    | false =>
      go_upto_region 2 with (fail)
      refine wp_region_lit ?_
      refine Fg.wpl_value (v := a.v) (w' := w4) rfl (ldE rfl rfl (HB.out.1 _ H4.out)) ?_
      simp only [Act.put, List.setIfInBounds_toArray, List.set_cons_succ, List.set_cons_zero]
      refine Fg.wpl_call rfl (Fg.run_call (vs := #[a.v]) rfl rfl (by simp only [List.map_toArray, List.map_cons, List.map_nil, Act.eval] <;> rfl) (Fg.run_enter Tryz.func23 (by kernel_rfl) (by kernel_rfl))) ?_
      refine (c_inv a w4 HO.out.1).mono ?_
      rintro e w5 ⟨rfl, gw5⟩
      refine ⟨_, rfl, ?_⟩
      simp only [Act.put, List.setIfInBounds_toArray, List.set_cons_succ, List.set_cons_zero]
      refine wpList_nil ?_
      have H5 := Lib.hid (gb_trans H4.out gw5); clear gw5
      go_upto_region 3 with (fail)
      refine wp_region_lit ?_
      refine Fg.wpl_value (v := a.v) (w' := w5) rfl (ldE rfl rfl (HB.out.1 _ H5.out)) ?_
      simp only [Act.put, List.setIfInBounds_toArray, List.set_cons_succ, List.set_cons_zero]
      refine Fg.wpl_value (v := b.v) (w' := w5) rfl (ldE rfl rfl (HB.out.2 _ H5.out)) ?_
      simp only [Act.put, List.setIfInBounds_toArray, List.set_cons_succ, List.set_cons_zero]
      refine Fg.wpl_call rfl (Fg.run_call (vs := #[a.v, b.v]) rfl rfl (by simp only [List.map_toArray, List.map_cons, List.map_nil, Act.eval] <;> rfl) (Fg.run_enter Tryz.func20 (by kernel_rfl) (by kernel_rfl))) ?_
      refine (c_root a b w5 (HT.out.grown (gb_trans H2.out.1 H5.out)) HO.out.1 HO.out.2).mono ?_
      rintro e w6 ⟨rfl, gw6⟩
      refine ⟨_, rfl, ?_⟩
      simp only [Act.put, List.setIfInBounds_toArray, List.set_cons_succ, List.set_cons_zero]
      refine wpList_nil ?_
      have H6 := Lib.hid (gb_trans H5.out gw6); clear gw6
      go_upto_region 4 with (fail)
      refine wp_region_lit ?_
      refine Fg.wpl_call rfl (Fg.run_call (vs := #[]) rfl rfl (by simp only [List.map_toArray, List.map_nil]) (Fg.run_enter Tryz.func5 (by kernel_rfl) (by kernel_rfl))) ?_
      refine (awake_any w6 (HT.out.grown (gb_trans H2.out.1 H6.out))).mono ?_
      rintro e w7 ⟨rfl, gw7⟩
      refine ⟨_, rfl, ?_⟩
      simp only [Act.put, List.setIfInBounds_toArray, List.set_cons_succ, List.set_cons_zero]
      refine Fg.wpl_value (v := .bool true) (w' := w7) rfl (Fg.run_assign rfl rfl) ?_
      simp only [Act.put, List.setIfInBounds_toArray, List.set_cons_succ, List.set_cons_zero]
      refine wpList_nil ?_
      have H7 := Lib.hid (gb_trans (gb_trans H2.out.1 H6.out) gw7); clear gw7
      go_wp2
      go_ret
      exact ⟨rfl, H7.out⟩
    | true =>
      have hRa := HR.out.1 trivial
      have hRb := HR.out.2.1 rfl
      go_upto_region 5 with (fail)
      refine Fg.region_t [5, 6] [.any, .any, .any, .any, .any, .fresh 31 (pL zeros) w4.heap.size, .fresh 31 (pL zeros) w4.heap.size, .any, .any, .any, .any, .any, .any, .any, .any, .any, .any, .any, .any, .any, .any, .any, .any, .any, .any, .any, .val (a.v), .val (nV (num a.m)), .val (b.v), .val (nV (num b.m))] w4 6 (gb_refl _ _) (by kernel_rfl) (by kernel_rfl) (by kernel_rfl) (by kernel_rfl) (by decide) (by kernel_rfl) ?_ ?_
      · refine ⟨Fg.vT rfl (by decide) fun ac w h => ?_, ?_⟩
        · have e2 : _ = Value.pointer (some ⟨w0.heap.size, 0, none⟩) := h.r 2
          refine ⟨a.v, w, wants_none rfl, ?_, gb_refl _ _, rfl⟩
          exact ldE rfl e2 (HB.out.1 w (gb_trans H4.out h.base))
        refine ⟨Fg.cT rfl (by decide) fun ac w h => ?_, ?_⟩
        · have e26 : _ = a.v := h.d 26
          refine ⟨30, #[a.v], wants_none rfl, Fg.run_call rfl rfl (by simp only [List.map_toArray, List.map_cons, List.map_nil, Act.eval, e26]) (Fg.run_enter Tryz.func30 (by kernel_rfl) (by kernel_rfl)), ?_⟩
          exact (c_from a w hRa).mono fun _ _ ⟨he, hg⟩ => ⟨_, he, hg, rfl⟩
        refine ⟨Fg.vT rfl (by decide) fun ac w h => ?_, ?_⟩
        · have e3 : _ = Value.pointer (some ⟨w0.heap.size + 1, 0, none⟩) := h.r 3
          refine ⟨b.v, w, wants_none rfl, ?_, gb_refl _ _, rfl⟩
          exact ldE rfl e3 (HB.out.2 w (gb_trans H4.out h.base))
        refine ⟨Fg.cT rfl (by decide) fun ac w h => ?_, ?_⟩
        · have e28 : _ = b.v := h.d 28
          refine ⟨30, #[b.v], wants_none rfl, Fg.run_call rfl rfl (by simp only [List.map_toArray, List.map_cons, List.map_nil, Act.eval, e28]) (Fg.run_enter Tryz.func30 (by kernel_rfl) (by kernel_rfl)), ?_⟩
          exact (c_from b w hRb).mono fun _ _ ⟨he, hg⟩ => ⟨_, he, hg, rfl⟩
        refine ⟨Fg.aT 31 (pL zeros) rfl (by show 5 < 102; decide) rfl fun ac w h => ?_, ?_⟩
        · refine ⟨wants_none rfl, ?_⟩
          clear h
          go_simp
          rfl
        refine ⟨Fg.aT 31 (pL zeros) rfl (by show 6 < 102; decide) rfl fun ac w h => ?_, ?_⟩
        · refine ⟨wants_none rfl, ?_⟩
          clear h
          go_simp
          rfl
        trivial
      · intro aq wq hB hsz hdf hrest hslots hpt
        obtain ⟨N5, e5, n5, b5⟩ : ∃ N, aq.tmps.getD 5 undef = .pointer (some ⟨N, 0, none⟩) ∧ w4.heap.size ≤ N ∧ Blk wq N 31 (pL zeros) := hslots 5 (by kernel_rfl)
        obtain ⟨N6, e6, n6, b6⟩ : ∃ N, aq.tmps.getD 6 undef = .pointer (some ⟨N, 0, none⟩) ∧ w4.heap.size ≤ N ∧ Blk wq N 31 (pL zeros) := hslots 6 (by kernel_rfl)
        obtain ⟨u26, e26⟩ := Fg.slotv aq 26
        have e27 : aq.tmps.getD 27 undef = nV (num a.m) := hslots 27 (by kernel_rfl)
        obtain ⟨u28, e28⟩ := Fg.slotv aq 28
        have e29 : aq.tmps.getD 29 undef = nV (num b.m) := hslots 29 (by kernel_rfl)
        have h56 : N5 ≠ N6 := fun e => (hpt 5 (by decide) N5 e5).2 6 (by decide) (by decide) (by rw [e6, e])
        obtain rfl := Fg.frame_by [5, 6, 26, 27, 28, 29] (vs := [_, _, _, _, _, Value.pointer (some ⟨N5, 0, none⟩), Value.pointer (some ⟨N6, 0, none⟩), _, _, _, _, _, _, _, _, _, _, _, _, _, _, _, _, _, _, _, u26, nV (num a.m), u28, nV (num b.m), _, _, _, _, _, _, _, _, _, _, _, _, _, _, _, _, _, _, _, _, _, _, _, _, _, _, _, _, _, _, _, _, _, _, _, _, _, _, _, _, _, _, _, _, _, _, _, _, _, _, _, _, _, _, _, _, _, _, _, _, _, _, _, _, _, _, _, _, _, _, _, _]) hsz hrest (by kernel_rfl) rfl rfl ⟨e5, e6, e26, e27, e28, e29, trivial⟩ hdf
        clear hsz hdf hrest hslots hpt e5 e6 e26 e27 e28 e29
        refine Fg.wpl_skip rfl rfl (st (l := num a.m) rfl rfl rfl b5 rfl (num_len _) rfl) ?_
        have d5 := stored (l := num a.m) b5 rfl (num_len _)
        have d6 := b6.setCells_other (cs := pL (num a.m)) (C := N5) 0 h56
        have dg := gb_setCells_new (cs := pL (num a.m)) hB (B := N5) n5 0
        refine Fg.wpl_skip rfl rfl (st (l := num b.m) rfl rfl rfl d6 rfl (num_len _) rfl) ?_
        refine wpList_nil ?_
        have f5 := d5.setCells_other (cs := pL (num b.m)) (C := N6) 0 (Ne.symm h56)
        have f6 := stored (l := num b.m) d6 rfl (num_len _)
        have fg := gb_setCells_new (cs := pL (num b.m)) dg (B := N6) n6 0
        clear d5 d6 dg b5 b6 hB n5 n6 h56
        revert fg; revert f6; revert f5
        generalize World.setCells (World.setCells _ _ _ _) _ _ _ = w6
        intro f5 f6 fg
        have H6 := Lib.hid (And.intro (gb_trans H4.out fg) (And.intro f5 f6)); clear f5 f6 fg
        obtain ⟨r, ok, s, hroots⟩ := roots_of hRa hRb
        have HQ := Lib.hid hroots; clear hroots
        go_upto_region 6 with (fail)
        refine wp_region_lit ?_
        refine Fg.wpl_value (v := a.v) (w' := w6) rfl (ldE rfl rfl (HB.out.1 _ H6.out.1)) ?_
        simp only [Act.put, List.setIfInBounds_toArray, List.set_cons_succ, List.set_cons_zero]
        refine Fg.wpl_value (v := b.v) (w' := w6) rfl (ldE rfl rfl (HB.out.2 _ H6.out.1)) ?_
        simp only [Act.put, List.setIfInBounds_toArray, List.set_cons_succ, List.set_cons_zero]
        refine Fg.wpl_call rfl (Fg.run_call (vs := #[a.v, b.v]) rfl rfl (by simp only [List.map_toArray, List.map_cons, List.map_nil, Act.eval] <;> rfl) (Fg.run_enter Tryz.func20 (by kernel_rfl) (by kernel_rfl))) ?_
        refine (HQ.out.fr w6 (HT.out.grown (gb_trans H2.out.1 H6.out.1))).mono ?_
        rintro e w7 ⟨rfl, gw7⟩
        refine ⟨_, rfl, ?_⟩
        simp only [Act.put, List.setIfInBounds_toArray, List.set_cons_succ, List.set_cons_zero]
        refine Fg.wpl_value (v := .tuple #[r.v, .bool ok]) (w' := w7) rfl (Fg.run_move rfl rfl) ?_
        simp only [Act.put, List.setIfInBounds_toArray, List.set_cons_succ, List.set_cons_zero]
        refine Fg.wpl_value (v := r.v) (w' := w7) rfl (by go_simp <;> rfl) ?_
        simp only [Act.put, List.setIfInBounds_toArray, List.set_cons_succ, List.set_cons_zero]
        refine Fg.wpl_value (v := .bool ok) (w' := w7) rfl (by go_simp <;> rfl) ?_
        simp only [Act.put, List.setIfInBounds_toArray, List.set_cons_succ, List.set_cons_zero]
        refine Fg.wpl_value (v := .pointer (some ⟨w7.heap.size, 0, none⟩)) (w' := w7.alloc (.cells (feL Fe.zeroF).toArray 27)) rfl (by go_simp; rfl) ?_
        simp only [Act.put, List.setIfInBounds_toArray, List.set_cons_succ, List.set_cons_zero]
        refine Fg.wpl_skip rfl rfl (stE (a := r) rfl rfl rfl (Blk.new w7 (feL Fe.zeroF) 27) rfl) ?_
        refine Fg.wpl_value (v := .bool ok) (w' := _) rfl (Fg.run_assign rfl rfl) ?_
        simp only [Act.put, List.setIfInBounds_toArray, List.set_cons_succ, List.set_cons_zero]
        refine wpList_nil ?_
        obtain ⟨h8, g8, s8⟩ := varE w7 r
        revert h8 g8 s8
        generalize World.setCells _ _ _ _ = w8
        intro h8 g8 s8
        have y7 : w2.heap.size ≤ w7.heap.size := (gb_trans H6.out.1 gw7).size
        have y5 : N5 < w7.heap.size := (H6.out.2.1.gn gw7).lt
        have y6 : N6 < w7.heap.size := (H6.out.2.2.gn gw7).lt
        have H8 := Lib.hid (And.intro (gb_trans (gb_trans H6.out.1 gw7) g8) (And.intro ((H6.out.2.1.gn gw7).grown g8 (by simp)) (And.intro ((H6.out.2.2.gn gw7).grown g8 (by simp)) h8))); clear gw7 g8 h8
        obtain ⟨N7, hN7⟩ : ∃ N7, N7 = w7.heap.size := ⟨_, rfl⟩
        rw [← hN7] at H8 s8 y7 y5 y6 ⊢
        clear hN7
        go_upto_region 7 with (fail)
        refine wp_region_lit ?_
        refine Fg.wpl_value (v := nV (num a.m)) (w' := w8) rfl (ld rfl rfl (H8.out.2.1) (num_len _) rfl rfl) ?_
        simp only [Act.put, List.setIfInBounds_toArray, List.set_cons_succ, List.set_cons_zero]
        refine Fg.wpl_value (v := nV (num b.m)) (w' := w8) rfl (ld rfl rfl (H8.out.2.2.1) (num_len _) rfl rfl) ?_
        simp only [Act.put, List.setIfInBounds_toArray, List.set_cons_succ, List.set_cons_zero]
        refine Fg.wpl_call rfl (Fg.run_call (vs := #[nV (num a.m), nV (num b.m)]) rfl rfl (by simp only [List.map_toArray, List.map_cons, List.map_nil, Act.eval] <;> rfl) (Fg.run_enter Tryz.func45 (by kernel_rfl) (by kernel_rfl))) ?_
        refine (HQ.out.rr w8).mono ?_
        rintro e w9 ⟨rfl, gw9⟩
        refine ⟨_, rfl, ?_⟩
        simp only [Act.put, List.setIfInBounds_toArray, List.set_cons_succ, List.set_cons_zero]
        refine Fg.wpl_value (v := .tuple #[nV s, .bool ok]) (w' := w9) rfl (Fg.run_move rfl rfl) ?_
        simp only [Act.put, List.setIfInBounds_toArray, List.set_cons_succ, List.set_cons_zero]
        refine Fg.wpl_value (v := nV s) (w' := w9) rfl (by go_simp <;> rfl) ?_
        simp only [Act.put, List.setIfInBounds_toArray, List.set_cons_succ, List.set_cons_zero]
        refine Fg.wpl_value (v := .bool ok) (w' := w9) rfl (by go_simp <;> rfl) ?_
        simp only [Act.put, List.setIfInBounds_toArray, List.set_cons_succ, List.set_cons_zero]
        refine Fg.wpl_value (v := .pointer (some ⟨w9.heap.size, 0, none⟩)) (w' := w9.alloc (.cells (pL zeros).toArray 31)) rfl (by go_simp; rfl) ?_
        simp only [Act.put, List.setIfInBounds_toArray, List.set_cons_succ, List.set_cons_zero]
        refine Fg.wpl_skip rfl rfl (st (l := s) rfl rfl rfl (new (w := w9) rfl zeros) rfl HQ.out.len rfl) ?_
        refine Fg.wpl_value (v := .bool ok) (w' := _) rfl (Fg.run_assign rfl rfl) ?_
        simp only [Act.put, List.setIfInBounds_toArray, List.set_cons_succ, List.set_cons_zero]
        refine wpList_nil ?_
        obtain ⟨h10, g10, s10⟩ := var w9 s HQ.out.len
        revert h10 g10 s10
        generalize World.setCells _ _ _ _ = w10
        intro h10 g10 s10
        have z9 := gw9.size
        have H10 := Lib.hid (And.intro (gb_trans (gb_trans H8.out.1 gw9) g10) (And.intro ((H8.out.2.1.gn gw9).grown g10 (by simp)) (And.intro ((H8.out.2.2.1.gn gw9).grown g10 (by simp)) (And.intro ((H8.out.2.2.2.gn gw9).grown g10 (by simp)) h10)))); clear gw9 g10 h10 H8
        obtain ⟨N9, hN9⟩ : ∃ N9, N9 = w9.heap.size := ⟨_, rfl⟩
        rw [← hN9] at H10 s10 z9 ⊢
        clear hN9
        go_upto_region 8 with (fail)
        obtain ⟨q, hq⟩ : ∃ q, q = Fe.mulF (Fe.sqF a) b := ⟨_, rfl⟩
        have hqr : q.Right := by rw [hq]; exact Fe.mul_right _ _
        have cM : ∀ w, Calls Tryz.prog 35 #[(Fe.sqF a).v, b.v] w fun e w' => e = .returned q.v ∧ w.grownBy w' none := fun w => hq ▸ feOut_and (mul_fe (Fe.sqF a) b w (Fe.sq_right a).ok HO.out.2)
        have HM := Lib.hid cM; clear cM hq
        obtain ⟨r2, ok2, s2, hroots⟩ := roots_of hqr hRb
        have H2q := Lib.hid hroots; clear hroots
        cases ok with
        | true =>
          refine Fg.region_p [] [.any, .any, .any, .any, .any, .any, .any, .any, .any, .any, .any, .any, .any, .any, .any, .any, .any, .any, .any, .any, .any, .any, .any, .any, .any, .any, .any, .any, .any, .any, .any, .any, .any, .any, .any, .any, .any, .any, .any, .any, .any, .any, .val (Value.bool true), .val (Value.bool true), .val (Value.bool false), .val (Value.bool false), .val (Value.bool true), .val (Value.bool true), .val (r.v), .val (nV s), .val (Value.bool true), .val (Value.bool false), .val (Value.bool false), .val (Value.bool false), .val (Value.bool false), .val (Value.bool true), .val (Value.bool false), .val (Value.bool false), .val undef, .val undef, .val undef, .val (Value.bool false), .val (Value.bool false)] w10 21 (gb_refl _ _) (by kernel_rfl) (by kernel_rfl) (by kernel_rfl) (by kernel_rfl) (by decide) (by kernel_rfl) ?_ ?_
          · refine ⟨Fg.vT rfl (by decide) fun ac w h => ?_, ?_⟩
            · have e8 : _ = Value.bool true := h.r 8
              exact ⟨_, w, wants_none rfl, Fg.run_move rfl e8, gb_refl _ _, rfl⟩
            refine ⟨Fg.vT rfl (by decide) fun ac w h => ?_, ?_⟩
            · have e10 : _ = Value.bool true := h.r 10
              exact ⟨_, w, wants_none rfl, Fg.run_move rfl e10, gb_refl _ _, rfl⟩
            refine ⟨Fg.vT rfl (by decide) fun ac w h => ?_, ?_⟩
            · have e42 : _ = Value.bool true := h.d 42
              have e43 : _ = Value.bool true := h.d 43
              refine ⟨.bool false, w, wants_none rfl, ?_, gb_refl _ _, rfl⟩
              clear h
              simp only [execOp, Act.eval, e42, e43]
              go_simp
            refine ⟨Fg.vT rfl (by decide) fun ac w h => ?_, ?_⟩
            · have e44 : _ = Value.bool false := h.d 44
              exact ⟨_, w, wants_none rfl, Fg.run_move rfl e44, gb_refl _ _, rfl⟩
            refine ⟨Fg.vT rfl (by decide) fun ac w h => ?_, ?_⟩
            · have e45 : _ = Value.bool false := h.d 45
              have e8 : _ = Value.bool true := h.r 8
              exact ⟨_, w, wants_some (d := 45) rfl rfl (by rw [h.size]; show 45 < 102; decide) e45, Fg.run_move rfl e8, gb_refl _ _, rfl⟩
            refine ⟨Fg.vT rfl (by decide) fun ac w h => ?_, ?_⟩
            · have e45 : _ = Value.bool false := h.d 45
              have e46 : _ = Value.bool true := h.d 46
              exact ⟨_, w, wants_some (d := 45) rfl rfl (by rw [h.size]; show 45 < 102; decide) e45, Fg.run_move rfl e46, gb_refl _ _, rfl⟩
            refine ⟨Fg.vT rfl (by decide) fun ac w h => ?_, ?_⟩
            · have e47 : _ = Value.bool true := h.d 47
              have e7 : _ = Value.pointer (some ⟨N7, 0, none⟩) := h.r 7
              refine ⟨r.v, w, wants_some (d := 47) rfl rfl (by rw [h.size]; show 47 < 102; decide) e47, ?_, gb_refl _ _, rfl⟩
              exact ldE rfl e7 (H10.out.2.2.2.1.gn h.base)
            refine ⟨Fg.vT rfl (by decide) fun ac w h => ?_, ?_⟩
            · have e47 : _ = Value.bool true := h.d 47
              have e9 : _ = Value.pointer (some ⟨N9, 0, none⟩) := h.r 9
              refine ⟨nV s, w, wants_some (d := 47) rfl rfl (by rw [h.size]; show 47 < 102; decide) e47, ?_, gb_refl _ _, rfl⟩
              exact ld rfl e9 (H10.out.2.2.2.2.gn h.base) HQ.out.len rfl rfl
            refine ⟨Fg.cT rfl (by decide) fun ac w h => ?_, ?_⟩
            · have e47 : _ = Value.bool true := h.d 47
              have e48 : _ = r.v := h.d 48
              have e49 : _ = nV s := h.d 49
              refine ⟨10, #[r.v, nV s], wants_some (d := 47) rfl rfl (by rw [h.size]; show 47 < 102; decide) e47, Fg.run_call rfl rfl (by simp only [List.map_toArray, List.map_cons, List.map_nil, Act.eval, e48, e49]) (Fg.run_enter Tryz.func10 (by kernel_rfl) (by kernel_rfl)), ?_⟩
              exact (HQ.out.yes rfl w).mono fun _ _ ⟨he, hg⟩ => ⟨_, he, hg, rfl⟩
            refine ⟨Fg.vT rfl (by decide) fun ac w h => ?_, ?_⟩
            · have e47 : _ = Value.bool true := h.d 47
              have e50 : _ = Value.bool true := h.d 50
              refine ⟨Value.bool false, w, wants_some (d := 47) rfl rfl (by rw [h.size]; show 47 < 102; decide) e47, ?_, gb_refl _ _, rfl⟩
              clear h
              simp only [execOp, Act.eval, e50]
              go_simp
            refine ⟨Fg.vT rfl (by decide) fun ac w h => ?_, ?_⟩
            · have e45 : _ = Value.bool false := h.d 45
              have e47 : _ = Value.bool true := h.d 47
              have e51 : _ = Value.bool false := h.d 51
              refine ⟨Value.bool false, w, wants_some (d := 45) rfl rfl (by rw [h.size]; show 45 < 102; decide) e45, ?_, gb_refl _ _, rfl⟩
              clear h
              simp only [execOp, Act.eval, e47, e51]
              go_simp
            refine ⟨Fg.vT rfl (by decide) fun ac w h => ?_, ?_⟩
            · have e45 : _ = Value.bool false := h.d 45
              have e52 : _ = Value.bool false := h.d 52
              refine ⟨Value.bool false, w, wants_none rfl, ?_, gb_refl _ _, rfl⟩
              clear h
              simp only [execOp, Act.eval, e45, e52]
              go_simp
            refine ⟨Fg.vT rfl (by decide) fun ac w h => ?_, ?_⟩
            · have e53 : _ = Value.bool false := h.d 53
              exact ⟨_, w, wants_none rfl, Fg.run_move rfl e53, gb_refl _ _, rfl⟩
            refine ⟨Fg.vT rfl (by decide) fun ac w h => ?_, ?_⟩
            · have e54 : _ = Value.bool false := h.d 54
              have e8 : _ = Value.bool true := h.r 8
              exact ⟨_, w, wants_some (d := 54) rfl rfl (by rw [h.size]; show 54 < 102; decide) e54, Fg.run_move rfl e8, gb_refl _ _, rfl⟩
            refine ⟨Fg.vT rfl (by decide) fun ac w h => ?_, ?_⟩
            · have e54 : _ = Value.bool false := h.d 54
              have e55 : _ = Value.bool true := h.d 55
              refine ⟨Value.bool false, w, wants_some (d := 54) rfl rfl (by rw [h.size]; show 54 < 102; decide) e54, ?_, gb_refl _ _, rfl⟩
              clear h
              simp only [execOp, Act.eval, e55]
              go_simp
            refine ⟨Fg.vT rfl (by decide) fun ac w h => ?_, ?_⟩
            · have e54 : _ = Value.bool false := h.d 54
              have e56 : _ = Value.bool false := h.d 56
              exact ⟨_, w, wants_some (d := 54) rfl rfl (by rw [h.size]; show 54 < 102; decide) e54, Fg.run_move rfl e56, gb_refl _ _, rfl⟩
            refine ⟨Fg.sT rfl (by decide) (fun _ => rfl) fun ac w h => ?_, ?_⟩
            · have e57 : _ = Value.bool false := h.d 57
              exact not_wants (d := 57) rfl rfl (by rw [h.size]; show 57 < 102; decide) e57 (by decide)
            refine ⟨Fg.sT rfl (by decide) (fun _ => rfl) fun ac w h => ?_, ?_⟩
            · have e57 : _ = Value.bool false := h.d 57
              exact not_wants (d := 57) rfl rfl (by rw [h.size]; show 57 < 102; decide) e57 (by decide)
            refine ⟨Fg.sT rfl (by decide) (fun _ => rfl) fun ac w h => ?_, ?_⟩
            · have e57 : _ = Value.bool false := h.d 57
              exact not_wants (d := 57) rfl rfl (by rw [h.size]; show 57 < 102; decide) e57 (by decide)
            refine ⟨Fg.vT rfl (by decide) fun ac w h => ?_, ?_⟩
            · have e54 : _ = Value.bool false := h.d 54
              have e57 : _ = Value.bool false := h.d 57
              refine ⟨Value.bool false, w, wants_some (d := 54) rfl rfl (by rw [h.size]; show 54 < 102; decide) e54, ?_, gb_refl _ _, rfl⟩
              clear h
              simp only [execOp, Act.eval, e57]
              go_simp
            refine ⟨Fg.vT rfl (by decide) fun ac w h => ?_, ?_⟩
            · have e54 : _ = Value.bool false := h.d 54
              have e61 : _ = Value.bool false := h.d 61
              refine ⟨Value.bool false, w, wants_none rfl, ?_, gb_refl _ _, rfl⟩
              clear h
              simp only [execOp, Act.eval, e54, e61]
              go_simp
            trivial
          · intro ap wp hB hsz hdf hrest hslots hpt
            obtain ⟨⟨u42, e42⟩, ⟨u43, e43⟩, ⟨u44, e44⟩, ⟨u45, e45⟩, ⟨u46, e46⟩, ⟨u47, e47⟩, ⟨u48, e48⟩, ⟨u49, e49⟩, ⟨u50, e50⟩, ⟨u51, e51⟩, ⟨u52, e52⟩, ⟨u53, e53⟩, ⟨u54, e54⟩, ⟨u55, e55⟩, ⟨u56, e56⟩, ⟨u57, e57⟩, ⟨u58, e58⟩, ⟨u59, e59⟩, ⟨u60, e60⟩, ⟨u61, e61⟩, _⟩ := Fg.slotvs ap [42, 43, 44, 45, 46, 47, 48, 49, 50, 51, 52, 53, 54, 55, 56, 57, 58, 59, 60, 61]
            have e62 : ap.tmps.getD 62 undef = Value.bool false := hslots 62 (by kernel_rfl)
            obtain rfl := Fg.frame_is (a := ap) (vs := [Value.agg #[Value.int IntKind.u64 a.x0, Value.int IntKind.u64 a.x1, Value.int IntKind.u64 a.x2, Value.int IntKind.u64 a.x3, Value.int IntKind.u64 a.x4], Value.agg #[Value.int IntKind.u64 b.x0, Value.int IntKind.u64 b.x1, Value.int IntKind.u64 b.x2, Value.int IntKind.u64 b.x3, Value.int IntKind.u64 b.x4], Value.pointer (some ⟨w0.heap.size, 0, none⟩), Value.pointer (some ⟨w0.heap.size + 1, 0, none⟩), Value.bool false, Value.pointer (some ⟨N5, 0, none⟩), Value.pointer (some ⟨N6, 0, none⟩), Value.pointer (some ⟨N7, 0, none⟩), Value.bool true, Value.pointer (some ⟨N9, 0, none⟩), Value.bool true, undef, Value.agg #[Value.int IntKind.u64 a.x0, Value.int IntKind.u64 a.x1, Value.int IntKind.u64 a.x2, Value.int IntKind.u64 a.x3, Value.int IntKind.u64 a.x4], Value.bool true, Value.bool false, Value.bool false, Value.agg #[Value.int IntKind.u64 b.x0, Value.int IntKind.u64 b.x1, Value.int IntKind.u64 b.x2, Value.int IntKind.u64 b.x3, Value.int IntKind.u64 b.x4], Value.bool true, Value.bool false, Value.bool false, undef, undef, undef, undef, undef, undef, u26, nV (num a.m), u28, nV (num b.m), Value.tuple #[r.v, Value.bool true], a.v, b.v, Value.tuple #[r.v, Value.bool true], r.v, Value.bool true, Value.tuple #[nV s, Value.bool true], nV (num a.m), nV (num b.m), Value.tuple #[nV s, Value.bool true], nV s, Value.bool true, u42, u43, u44, u45, u46, u47, u48, u49, u50, u51, u52, u53, u54, u55, u56, u57, u58, u59, u60, u61, Value.bool false, undef, undef, undef, undef, undef, undef, undef, undef, undef, undef, undef, undef, undef, undef, undef, undef, undef, undef, undef, undef, undef, undef, undef, undef, undef, undef, undef, undef, undef, undef, undef, undef, undef, undef, undef, undef, undef, undef, undef]) hsz ⟨hrest 0 (by kernel_rfl), hrest 1 (by kernel_rfl), hrest 2 (by kernel_rfl), hrest 3 (by kernel_rfl), hrest 4 (by kernel_rfl), hrest 5 (by kernel_rfl), hrest 6 (by kernel_rfl), hrest 7 (by kernel_rfl), hrest 8 (by kernel_rfl), hrest 9 (by kernel_rfl), hrest 10 (by kernel_rfl), hrest 11 (by kernel_rfl), hrest 12 (by kernel_rfl), hrest 13 (by kernel_rfl), hrest 14 (by kernel_rfl), hrest 15 (by kernel_rfl), hrest 16 (by kernel_rfl), hrest 17 (by kernel_rfl), hrest 18 (by kernel_rfl), hrest 19 (by kernel_rfl), hrest 20 (by kernel_rfl), hrest 21 (by kernel_rfl), hrest 22 (by kernel_rfl), hrest 23 (by kernel_rfl), hrest 24 (by kernel_rfl), hrest 25 (by kernel_rfl), hrest 26 (by kernel_rfl), hrest 27 (by kernel_rfl), hrest 28 (by kernel_rfl), hrest 29 (by kernel_rfl), hrest 30 (by kernel_rfl), hrest 31 (by kernel_rfl), hrest 32 (by kernel_rfl), hrest 33 (by kernel_rfl), hrest 34 (by kernel_rfl), hrest 35 (by kernel_rfl), hrest 36 (by kernel_rfl), hrest 37 (by kernel_rfl), hrest 38 (by kernel_rfl), hrest 39 (by kernel_rfl), hrest 40 (by kernel_rfl), hrest 41 (by kernel_rfl), e42, e43, e44, e45, e46, e47, e48, e49, e50, e51, e52, e53, e54, e55, e56, e57, e58, e59, e60, e61, e62, hrest 63 (by kernel_rfl), hrest 64 (by kernel_rfl), hrest 65 (by kernel_rfl), hrest 66 (by kernel_rfl), hrest 67 (by kernel_rfl), hrest 68 (by kernel_rfl), hrest 69 (by kernel_rfl), hrest 70 (by kernel_rfl), hrest 71 (by kernel_rfl), hrest 72 (by kernel_rfl), hrest 73 (by kernel_rfl), hrest 74 (by kernel_rfl), hrest 75 (by kernel_rfl), hrest 76 (by kernel_rfl), hrest 77 (by kernel_rfl), hrest 78 (by kernel_rfl), hrest 79 (by kernel_rfl), hrest 80 (by kernel_rfl), hrest 81 (by kernel_rfl), hrest 82 (by kernel_rfl), hrest 83 (by kernel_rfl), hrest 84 (by kernel_rfl), hrest 85 (by kernel_rfl), hrest 86 (by kernel_rfl), hrest 87 (by kernel_rfl), hrest 88 (by kernel_rfl), hrest 89 (by kernel_rfl), hrest 90 (by kernel_rfl), hrest 91 (by kernel_rfl), hrest 92 (by kernel_rfl), hrest 93 (by kernel_rfl), hrest 94 (by kernel_rfl), hrest 95 (by kernel_rfl), hrest 96 (by kernel_rfl), hrest 97 (by kernel_rfl), hrest 98 (by kernel_rfl), hrest 99 (by kernel_rfl), hrest 100 (by kernel_rfl), hrest 101 (by kernel_rfl), trivial⟩ hdf
            clear hsz hdf hrest hslots hpt e42 e43 e44 e45 e46 e47 e48 e49 e50 e51 e52 e53 e54 e55 e56 e57 e58 e59 e60 e61 e62
            dsimp only
            refine wpList_nil ?_
            have H11 := Lib.hid (And.intro (gb_trans H10.out.1 hB) (And.intro (H10.out.2.1.gn hB) (And.intro (H10.out.2.2.1.gn hB) (And.intro (H10.out.2.2.2.1.gn hB) (H10.out.2.2.2.2.gn hB))))); clear hB
            have x5 := H11.out.2.1.lt
            have x6 := H11.out.2.2.1.lt
            have x7 := H11.out.2.2.2.1.lt
            have x9 := H11.out.2.2.2.2.lt
            have x2 := H11.out.1.size
            go_upto_region 10 with (fail)
            refine Fg.region_t [11] [.any, .any, .any, .any, .any, .any, .any, .any, .any, .any, .any, .fresh 27 (feL Fe.zeroF) wp.heap.size, .any, .any, .any, .any, .any, .any, .any, .any, .any, .any, .any, .any, .any, .any, .any, .any, .any, .any, .any, .any, .any, .any, .any, .any, .any, .any, .any, .any, .any, .any, .any, .any, .any, .any, .any, .any, .any, .any, .any, .any, .any, .any, .any, .any, .any, .any, .any, .any, .any, .any, .any, .val (a.v), .val ((Fe.sqF a).v), .val (b.v), .val (q.v)] wp 5 (gb_refl _ _) (by kernel_rfl) (by kernel_rfl) (by kernel_rfl) (by kernel_rfl) (by decide) (by kernel_rfl) ?_ ?_
            · refine ⟨Fg.vT rfl (by decide) fun ac w h => ?_, ?_⟩
              · have e2 : _ = Value.pointer (some ⟨w0.heap.size, 0, none⟩) := h.r 2
                refine ⟨a.v, w, wants_none rfl, ?_, gb_refl _ _, rfl⟩
                exact ldE rfl e2 (HB.out.1 w (gb_trans H11.out.1 h.base))
              refine ⟨Fg.cT rfl (by decide) fun ac w h => ?_, ?_⟩
              · have e63 : _ = a.v := h.d 63
                refine ⟨38, #[a.v], wants_none rfl, Fg.run_call rfl rfl (by simp only [List.map_toArray, List.map_cons, List.map_nil, Act.eval, e63]) (Fg.run_enter Tryz.func38 (by kernel_rfl) (by kernel_rfl)), ?_⟩
                exact (feOut_and (sq_fe a w HO.out.1)).mono fun _ _ ⟨he, hg⟩ => ⟨_, he, hg, rfl⟩
              refine ⟨Fg.vT rfl (by decide) fun ac w h => ?_, ?_⟩
              · have e3 : _ = Value.pointer (some ⟨w0.heap.size + 1, 0, none⟩) := h.r 3
                refine ⟨b.v, w, wants_none rfl, ?_, gb_refl _ _, rfl⟩
                exact ldE rfl e3 (HB.out.2 w (gb_trans H11.out.1 h.base))
              refine ⟨Fg.cT rfl (by decide) fun ac w h => ?_, ?_⟩
              · have e64 : _ = (Fe.sqF a).v := h.d 64
                have e65 : _ = b.v := h.d 65
                refine ⟨35, #[(Fe.sqF a).v, b.v], wants_none rfl, Fg.run_call rfl rfl (by simp only [List.map_toArray, List.map_cons, List.map_nil, Act.eval, e64, e65]) (Fg.run_enter Tryz.func35 (by kernel_rfl) (by kernel_rfl)), ?_⟩
                exact (HM.out w).mono fun _ _ ⟨he, hg⟩ => ⟨_, he, hg, rfl⟩
              refine ⟨Fg.aT 27 (feL Fe.zeroF) rfl (by show 11 < 102; decide) rfl fun ac w h => ?_, ?_⟩
              · refine ⟨wants_none rfl, ?_⟩
                clear h
                go_simp
                rfl
              trivial
            · intro ax wx hB hsz hdf hrest hslots hpt
              obtain ⟨N11, e11, n11, b11⟩ : ∃ N, ax.tmps.getD 11 undef = .pointer (some ⟨N, 0, none⟩) ∧ wp.heap.size ≤ N ∧ Blk wx N 27 (feL Fe.zeroF) := hslots 11 (by kernel_rfl)
              obtain ⟨⟨u63, e63⟩, ⟨u64, e64⟩, ⟨u65, e65⟩, _⟩ := Fg.slotvs ax [63, 64, 65]
              have e66 : ax.tmps.getD 66 undef = q.v := hslots 66 (by kernel_rfl)
              obtain rfl := Fg.frame_is (a := ax) (vs := [Value.agg #[Value.int IntKind.u64 a.x0, Value.int IntKind.u64 a.x1, Value.int IntKind.u64 a.x2, Value.int IntKind.u64 a.x3, Value.int IntKind.u64 a.x4], Value.agg #[Value.int IntKind.u64 b.x0, Value.int IntKind.u64 b.x1, Value.int IntKind.u64 b.x2, Value.int IntKind.u64 b.x3, Value.int IntKind.u64 b.x4], Value.pointer (some ⟨w0.heap.size, 0, none⟩), Value.pointer (some ⟨w0.heap.size + 1, 0, none⟩), Value.bool false, Value.pointer (some ⟨N5, 0, none⟩), Value.pointer (some ⟨N6, 0, none⟩), Value.pointer (some ⟨N7, 0, none⟩), Value.bool true, Value.pointer (some ⟨N9, 0, none⟩), Value.bool true, Value.pointer (some ⟨N11, 0, none⟩), Value.agg #[Value.int IntKind.u64 a.x0, Value.int IntKind.u64 a.x1, Value.int IntKind.u64 a.x2, Value.int IntKind.u64 a.x3, Value.int IntKind.u64 a.x4], Value.bool true, Value.bool false, Value.bool false, Value.agg #[Value.int IntKind.u64 b.x0, Value.int IntKind.u64 b.x1, Value.int IntKind.u64 b.x2, Value.int IntKind.u64 b.x3, Value.int IntKind.u64 b.x4], Value.bool true, Value.bool false, Value.bool false, undef, undef, undef, undef, undef, undef, u26, nV (num a.m), u28, nV (num b.m), Value.tuple #[r.v, Value.bool true], a.v, b.v, Value.tuple #[r.v, Value.bool true], r.v, Value.bool true, Value.tuple #[nV s, Value.bool true], nV (num a.m), nV (num b.m), Value.tuple #[nV s, Value.bool true], nV s, Value.bool true, u42, u43, u44, u45, u46, u47, u48, u49, u50, u51, u52, u53, u54, u55, u56, u57, u58, u59, u60, u61, Value.bool false, u63, u64, u65, q.v, undef, undef, undef, undef, undef, undef, undef, undef, undef, undef, undef, undef, undef, undef, undef, undef, undef, undef, undef, undef, undef, undef, undef, undef, undef, undef, undef, undef, undef, undef, undef, undef, undef, undef, undef]) hsz ⟨hrest 0 (by kernel_rfl), hrest 1 (by kernel_rfl), hrest 2 (by kernel_rfl), hrest 3 (by kernel_rfl), hrest 4 (by kernel_rfl), hrest 5 (by kernel_rfl), hrest 6 (by kernel_rfl), hrest 7 (by kernel_rfl), hrest 8 (by kernel_rfl), hrest 9 (by kernel_rfl), hrest 10 (by kernel_rfl), e11, hrest 12 (by kernel_rfl), hrest 13 (by kernel_rfl), hrest 14 (by kernel_rfl), hrest 15 (by kernel_rfl), hrest 16 (by kernel_rfl), hrest 17 (by kernel_rfl), hrest 18 (by kernel_rfl), hrest 19 (by kernel_rfl), hrest 20 (by kernel_rfl), hrest 21 (by kernel_rfl), hrest 22 (by kernel_rfl), hrest 23 (by kernel_rfl), hrest 24 (by kernel_rfl), hrest 25 (by kernel_rfl), hrest 26 (by kernel_rfl), hrest 27 (by kernel_rfl), hrest 28 (by kernel_rfl), hrest 29 (by kernel_rfl), hrest 30 (by kernel_rfl), hrest 31 (by kernel_rfl), hrest 32 (by kernel_rfl), hrest 33 (by kernel_rfl), hrest 34 (by kernel_rfl), hrest 35 (by kernel_rfl), hrest 36 (by kernel_rfl), hrest 37 (by kernel_rfl), hrest 38 (by kernel_rfl), hrest 39 (by kernel_rfl), hrest 40 (by kernel_rfl), hrest 41 (by kernel_rfl), hrest 42 (by kernel_rfl), hrest 43 (by kernel_rfl), hrest 44 (by kernel_rfl), hrest 45 (by kernel_rfl), hrest 46 (by kernel_rfl), hrest 47 (by kernel_rfl), hrest 48 (by kernel_rfl), hrest 49 (by kernel_rfl), hrest 50 (by kernel_rfl), hrest 51 (by kernel_rfl), hrest 52 (by kernel_rfl), hrest 53 (by kernel_rfl), hrest 54 (by kernel_rfl), hrest 55 (by kernel_rfl), hrest 56 (by kernel_rfl), hrest 57 (by kernel_rfl), hrest 58 (by kernel_rfl), hrest 59 (by kernel_rfl), hrest 60 (by kernel_rfl), hrest 61 (by kernel_rfl), hrest 62 (by kernel_rfl), e63, e64, e65, e66, hrest 67 (by kernel_rfl), hrest 68 (by kernel_rfl), hrest 69 (by kernel_rfl), hrest 70 (by kernel_rfl), hrest 71 (by kernel_rfl), hrest 72 (by kernel_rfl), hrest 73 (by kernel_rfl), hrest 74 (by kernel_rfl), hrest 75 (by kernel_rfl), hrest 76 (by kernel_rfl), hrest 77 (by kernel_rfl), hrest 78 (by kernel_rfl), hrest 79 (by kernel_rfl), hrest 80 (by kernel_rfl), hrest 81 (by kernel_rfl), hrest 82 (by kernel_rfl), hrest 83 (by kernel_rfl), hrest 84 (by kernel_rfl), hrest 85 (by kernel_rfl), hrest 86 (by kernel_rfl), hrest 87 (by kernel_rfl), hrest 88 (by kernel_rfl), hrest 89 (by kernel_rfl), hrest 90 (by kernel_rfl), hrest 91 (by kernel_rfl), hrest 92 (by kernel_rfl), hrest 93 (by kernel_rfl), hrest 94 (by kernel_rfl), hrest 95 (by kernel_rfl), hrest 96 (by kernel_rfl), hrest 97 (by kernel_rfl), hrest 98 (by kernel_rfl), hrest 99 (by kernel_rfl), hrest 100 (by kernel_rfl), hrest 101 (by kernel_rfl), trivial⟩ hdf
              clear hsz hdf hrest hslots hpt e11 e63 e64 e65 e66
              dsimp only
              refine Fg.wpl_skip rfl rfl (stE (a := q) rfl rfl rfl b11 rfl) ?_
              refine wpList_nil ?_
              have k11 := storedE (a := q) b11 rfl
              have k5 := (H11.out.2.1.gn hB).setCells_other (cs := feL q) (C := N11) 0 (by omega)
              have k6 := (H11.out.2.2.1.gn hB).setCells_other (cs := feL q) (C := N11) 0 (by omega)
              have k7 := (H11.out.2.2.2.1.gn hB).setCells_other (cs := feL q) (C := N11) 0 (by omega)
              have k9 := (H11.out.2.2.2.2.gn hB).setCells_other (cs := feL q) (C := N11) 0 (by omega)
              have kg := gb_setCells_new (cs := feL q) (gb_trans H11.out.1 hB) (B := N11) (by omega) 0
              have y11 : N7 < N11 ∧ N9 < N11 := ⟨by omega, by omega⟩
              clear b11 hB n11 x5 x6 x7 x9 x2
              revert kg; revert k9; revert k7; revert k6; revert k5; revert k11
              generalize World.setCells _ _ _ _ = w12
              intro k11 k5 k6 k7 k9 kg
              have H12 := Lib.hid (And.intro kg (And.intro k5 (And.intro k6 (And.intro k7 (And.intro k9 k11))))); clear k11 k5 k6 k7 k9 kg H11 H10
              go_upto_region 11 with (fail)
              refine wp_region_lit ?_
              refine Fg.wpl_value (v := q.v) (w' := w12) rfl (ldE rfl rfl (H12.out.2.2.2.2.2)) ?_
              simp only [Act.put, List.setIfInBounds_toArray, List.set_cons_succ, List.set_cons_zero]
              refine Fg.wpl_value (v := b.v) (w' := w12) rfl (ldE rfl rfl (HB.out.2 _ H12.out.1)) ?_
              simp only [Act.put, List.setIfInBounds_toArray, List.set_cons_succ, List.set_cons_zero]
              refine Fg.wpl_call rfl (Fg.run_call (vs := #[q.v, b.v]) rfl rfl (by simp only [List.map_toArray, List.map_cons, List.map_nil, Act.eval] <;> rfl) (Fg.run_enter Tryz.func20 (by kernel_rfl) (by kernel_rfl))) ?_
              refine (H2q.out.fr w12 (HT.out.grown (gb_trans H2.out.1 H12.out.1))).mono ?_
              rintro e w13 ⟨rfl, gw13⟩
              refine ⟨_, rfl, ?_⟩
              simp only [Act.put, List.setIfInBounds_toArray, List.set_cons_succ, List.set_cons_zero]
              refine Fg.wpl_value (v := .tuple #[r2.v, .bool ok2]) (w' := w13) rfl (Fg.run_move rfl rfl) ?_
              simp only [Act.put, List.setIfInBounds_toArray, List.set_cons_succ, List.set_cons_zero]
              refine Fg.wpl_value (v := r2.v) (w' := w13) rfl (by go_simp <;> rfl) ?_
              simp only [Act.put, List.setIfInBounds_toArray, List.set_cons_succ, List.set_cons_zero]
              refine Fg.wpl_value (v := .bool ok2) (w' := w13) rfl (by go_simp <;> rfl) ?_
              simp only [Act.put, List.setIfInBounds_toArray, List.set_cons_succ, List.set_cons_zero]
              have k7 := H12.out.2.2.2.1.gn gw13
              refine Fg.wpl_skip rfl rfl (stE (a := r2) rfl rfl rfl k7 rfl) ?_
              refine Fg.wpl_value (v := .bool ok2) (w' := _) rfl (Fg.run_assign rfl rfl) ?_
              simp only [Act.put, List.setIfInBounds_toArray, List.set_cons_succ, List.set_cons_zero]
              refine wpList_nil ?_
              have m7 := storedE (a := r2) k7 rfl
              have m5 := (H12.out.2.1.gn gw13).setCells_other (cs := feL r2) (C := N7) 0 (by omega)
              have m6 := (H12.out.2.2.1.gn gw13).setCells_other (cs := feL r2) (C := N7) 0 (by omega)
              have m9 := (H12.out.2.2.2.2.1.gn gw13).setCells_other (cs := feL r2) (C := N7) 0 (by omega)
              have m11 := (H12.out.2.2.2.2.2.gn gw13).setCells_other (cs := feL r2) (C := N7) 0 (by omega)
              have mg := gb_setCells_new (cs := feL r2) (gb_trans H12.out.1 gw13) (B := N7) (by omega) 0
              clear k7 gw13
              revert mg; revert m11; revert m9; revert m7; revert m6; revert m5
              generalize World.setCells _ _ _ _ = w14
              intro m5 m6 m7 m9 m11 mg
              have H14 := Lib.hid (And.intro mg (And.intro m5 (And.intro m6 (And.intro m7 (And.intro m9 m11))))); clear m5 m6 m7 m9 m11 mg H12
              go_upto_region 12 with (fail)
              refine wp_region_flowP (fun d u _ => u = gv q b s2 ok2 d) (fun _ => 0) (fun _ _ _ => True) (B12 w2 N5 N6 N7 N9 N11 (num a.m) (num b.m) s s2 r2 q) [] (by kernel_rfl) (by kernel_rfl) (by kernel_rfl) ?_ ?_ (by kernel_rfl) ?_ ?_
              · intro ls hls h0
                have gd : w14.grownBy w14.drew none := gb_drew (gb_refl _ _)
                refine ⟨gb_trans H14.out.1 gd, H14.out.2.1.gn gd, H14.out.2.2.1.gn gd, H14.out.2.2.2.1.gn gd, H14.out.2.2.2.2.2.gn gd, ?_⟩
                rw [if_neg (by rw [h0]; decide)]
                exact H14.out.2.2.2.2.1.gn gd
              · exact Fg.ptrs_undef rfl
              · refine ⟨v12 rfl (by decide) rfl fun ls ac w h => ?_, ?_⟩
                · have e11 : _ = Value.pointer (some ⟨N11, 0, none⟩) := h.r 11
                  exact ldE rfl e11 h.base.2.2.2.2.1
                refine ⟨c12 rfl (by decide) rfl 30 #[q.v] fun ls ac w h => ?_, ?_⟩
                · have e74 : _ = q.v := h.d 74
                  exact ⟨Fg.run_call rfl rfl (by simp only [List.map_toArray, List.map_cons, List.map_nil, Act.eval, e74]) (Fg.run_enter Tryz.func30 (by kernel_rfl) (by kernel_rfl)), c_from q w hqr⟩
                refine ⟨v12 rfl (by decide) rfl fun ls ac w h => ?_, ?_⟩
                · have e6 : _ = Value.pointer (some ⟨N6, 0, none⟩) := h.r 6
                  exact ld rfl e6 h.base.2.2.1 (num_len _) rfl rfl
                refine ⟨c12 rfl (by decide) rfl 45 #[nV (num q.m), nV (num b.m)] fun ls ac w h => ?_, ?_⟩
                · have e75 : _ = nV (num q.m) := h.d 75
                  have e76 : _ = nV (num b.m) := h.d 76
                  exact ⟨Fg.run_call rfl rfl (by simp only [List.map_toArray, List.map_cons, List.map_nil, Act.eval, e75, e76]) (Fg.run_enter Tryz.func45 (by kernel_rfl) (by kernel_rfl)), H2q.out.rr w⟩
                refine ⟨v12 rfl (by decide) rfl fun ls ac w h => ?_, ?_⟩
                · have e77 : _ = Value.tuple #[nV s2, .bool ok2] := h.d 77
                  exact Fg.run_move rfl e77
                refine ⟨v12 rfl (by decide) rfl fun ls ac w h => ?_, ?_⟩
                · have e73 : _ = Value.tuple #[nV s2, .bool ok2] := h.d 73
                  show _ = Result.ok (Next.value (nV s2)) w
                  clear h
                  simp only [execOp, Act.eval, e73]
                  go_simp
                refine ⟨v12 rfl (by decide) rfl fun ls ac w h => ?_, ?_⟩
                · have e73 : _ = Value.tuple #[nV s2, .bool ok2] := h.d 73
                  show _ = Result.ok (Next.value (.bool ok2)) w
                  clear h
                  simp only [execOp, Act.eval, e73]
                  go_simp
                refine ⟨flowP_store rfl fun ls ac w h => ?_, ?_⟩
                · have e9 : _ = Value.pointer (some ⟨N9, 0, none⟩) := h.r 9
                  have e78 : _ = nV s2 := h.d 78
                  have hb := h.base
                  have hl : (pL (if ls.getD 7 false = true then s2 else s)).length = 16 := by
                    rw [pL_len]
                    split
                    · exact H2q.out.len
                    · exact HQ.out.len
                  refine ⟨wants_none rfl, w.setCells N9 0 (pL s2), st rfl e9 e78 hb.2.2.2.2.2 hl H2q.out.len rfl, ⟨gb_setCells_new hb.1 (by omega) 0, hb.2.1.setCells_other 0 (by omega), hb.2.2.1.setCells_other 0 (by omega), hb.2.2.2.1.setCells_other 0 (by omega), hb.2.2.2.2.1.setCells_other 0 (by omega), ?_⟩, fun _ _ h => h, fun _ _ _ _ _ h => h, (gb_setCells (cs := pL s2) (gb_refl w (some N9)) 0).size, trivial⟩
                  rw [if_pos (ls_this (by rw [h.rows]; decide))]
                  exact stored hb.2.2.2.2.2 hl H2q.out.len
                refine ⟨v12 rfl (by decide) rfl fun ls ac w h => ?_, trivial⟩
                · have e79 : _ = Value.bool ok2 := h.d 79
                  exact Fg.run_assign rfl e79
              · intro ls ay w15 hall hB hsz hdf hrest hslots hmems hpt
                have h7 := hall 7 (by decide)
                have hb9 := hB.2.2.2.2.2
                rw [if_pos h7] at hb9
                have H15 := Lib.hid (And.intro hB.1 (And.intro hB.2.1 (And.intro hB.2.2.2.1 hb9))); clear hB hb9 h7 hall hmems
                have e10 : ay.tmps.getD 10 undef = Value.bool ok2 := hslots 10 (by kernel_rfl)
                obtain ⟨⟨u73, e73⟩, ⟨u74, e74⟩, ⟨u75, e75⟩, ⟨u76, e76⟩, ⟨u77, e77⟩, _⟩ := Fg.slotvs ay [73, 74, 75, 76, 77]
                have e78 : ay.tmps.getD 78 undef = nV s2 := hslots 78 (by kernel_rfl)
                have e79 : ay.tmps.getD 79 undef = Value.bool ok2 := hslots 79 (by kernel_rfl)
                obtain rfl := Fg.frame_is (a := ay) (vs := [Value.agg #[Value.int IntKind.u64 a.x0, Value.int IntKind.u64 a.x1, Value.int IntKind.u64 a.x2, Value.int IntKind.u64 a.x3, Value.int IntKind.u64 a.x4], Value.agg #[Value.int IntKind.u64 b.x0, Value.int IntKind.u64 b.x1, Value.int IntKind.u64 b.x2, Value.int IntKind.u64 b.x3, Value.int IntKind.u64 b.x4], Value.pointer (some ⟨w0.heap.size, 0, none⟩), Value.pointer (some ⟨w0.heap.size + 1, 0, none⟩), Value.bool false, Value.pointer (some ⟨N5, 0, none⟩), Value.pointer (some ⟨N6, 0, none⟩), Value.pointer (some ⟨N7, 0, none⟩), Value.bool ok2, Value.pointer (some ⟨N9, 0, none⟩), Value.bool ok2, Value.pointer (some ⟨N11, 0, none⟩), Value.agg #[Value.int IntKind.u64 a.x0, Value.int IntKind.u64 a.x1, Value.int IntKind.u64 a.x2, Value.int IntKind.u64 a.x3, Value.int IntKind.u64 a.x4], Value.bool true, Value.bool false, Value.bool false, Value.agg #[Value.int IntKind.u64 b.x0, Value.int IntKind.u64 b.x1, Value.int IntKind.u64 b.x2, Value.int IntKind.u64 b.x3, Value.int IntKind.u64 b.x4], Value.bool true, Value.bool false, Value.bool false, undef, undef, undef, undef, undef, undef, u26, nV (num a.m), u28, nV (num b.m), Value.tuple #[r.v, Value.bool true], a.v, b.v, Value.tuple #[r.v, Value.bool true], r.v, Value.bool true, Value.tuple #[nV s, Value.bool true], nV (num a.m), nV (num b.m), Value.tuple #[nV s, Value.bool true], nV s, Value.bool true, u42, u43, u44, u45, u46, u47, u48, u49, u50, u51, u52, u53, u54, u55, u56, u57, u58, u59, u60, u61, Value.bool false, u63, u64, u65, q.v, Value.tuple #[r2.v, Value.bool ok2], q.v, b.v, Value.tuple #[r2.v, Value.bool ok2], r2.v, Value.bool ok2, u73, u74, u75, u76, u77, nV s2, Value.bool ok2, undef, undef, undef, undef, undef, undef, undef, undef, undef, undef, undef, undef, undef, undef, undef, undef, undef, undef, undef, undef, undef, undef]) hsz ⟨hrest 0 (by kernel_rfl), hrest 1 (by kernel_rfl), hrest 2 (by kernel_rfl), hrest 3 (by kernel_rfl), hrest 4 (by kernel_rfl), hrest 5 (by kernel_rfl), hrest 6 (by kernel_rfl), hrest 7 (by kernel_rfl), hrest 8 (by kernel_rfl), hrest 9 (by kernel_rfl), e10, hrest 11 (by kernel_rfl), hrest 12 (by kernel_rfl), hrest 13 (by kernel_rfl), hrest 14 (by kernel_rfl), hrest 15 (by kernel_rfl), hrest 16 (by kernel_rfl), hrest 17 (by kernel_rfl), hrest 18 (by kernel_rfl), hrest 19 (by kernel_rfl), hrest 20 (by kernel_rfl), hrest 21 (by kernel_rfl), hrest 22 (by kernel_rfl), hrest 23 (by kernel_rfl), hrest 24 (by kernel_rfl), hrest 25 (by kernel_rfl), hrest 26 (by kernel_rfl), hrest 27 (by kernel_rfl), hrest 28 (by kernel_rfl), hrest 29 (by kernel_rfl), hrest 30 (by kernel_rfl), hrest 31 (by kernel_rfl), hrest 32 (by kernel_rfl), hrest 33 (by kernel_rfl), hrest 34 (by kernel_rfl), hrest 35 (by kernel_rfl), hrest 36 (by kernel_rfl), hrest 37 (by kernel_rfl), hrest 38 (by kernel_rfl), hrest 39 (by kernel_rfl), hrest 40 (by kernel_rfl), hrest 41 (by kernel_rfl), hrest 42 (by kernel_rfl), hrest 43 (by kernel_rfl), hrest 44 (by kernel_rfl), hrest 45 (by kernel_rfl), hrest 46 (by kernel_rfl), hrest 47 (by kernel_rfl), hrest 48 (by kernel_rfl), hrest 49 (by kernel_rfl), hrest 50 (by kernel_rfl), hrest 51 (by kernel_rfl), hrest 52 (by kernel_rfl), hrest 53 (by kernel_rfl), hrest 54 (by kernel_rfl), hrest 55 (by kernel_rfl), hrest 56 (by kernel_rfl), hrest 57 (by kernel_rfl), hrest 58 (by kernel_rfl), hrest 59 (by kernel_rfl), hrest 60 (by kernel_rfl), hrest 61 (by kernel_rfl), hrest 62 (by kernel_rfl), hrest 63 (by kernel_rfl), hrest 64 (by kernel_rfl), hrest 65 (by kernel_rfl), hrest 66 (by kernel_rfl), hrest 67 (by kernel_rfl), hrest 68 (by kernel_rfl), hrest 69 (by kernel_rfl), hrest 70 (by kernel_rfl), hrest 71 (by kernel_rfl), hrest 72 (by kernel_rfl), e73, e74, e75, e76, e77, e78, e79, hrest 80 (by kernel_rfl), hrest 81 (by kernel_rfl), hrest 82 (by kernel_rfl), hrest 83 (by kernel_rfl), hrest 84 (by kernel_rfl), hrest 85 (by kernel_rfl), hrest 86 (by kernel_rfl), hrest 87 (by kernel_rfl), hrest 88 (by kernel_rfl), hrest 89 (by kernel_rfl), hrest 90 (by kernel_rfl), hrest 91 (by kernel_rfl), hrest 92 (by kernel_rfl), hrest 93 (by kernel_rfl), hrest 94 (by kernel_rfl), hrest 95 (by kernel_rfl), hrest 96 (by kernel_rfl), hrest 97 (by kernel_rfl), hrest 98 (by kernel_rfl), hrest 99 (by kernel_rfl), hrest 100 (by kernel_rfl), hrest 101 (by kernel_rfl), trivial⟩ hdf
                clear hsz hdf hrest hslots hpt e10 e73 e74 e75 e76 e77 e78 e79
                dsimp only
                clear H14
                cases ok2 with
                | true =>
                  go_upto_region 13 with (fail)
                  refine Fg.region_t [] [.any, .any, .any, .any, .any, .any, .any, .any, .any, .any, .any, .any, .any, .any, .any, .any, .any, .any, .any, .any, .any, .any, .any, .any, .any, .any, .any, .any, .any, .any, .any, .any, .any, .any, .any, .any, .any, .any, .any, .any, .any, .any, .any, .any, .any, .any, .any, .any, .any, .any, .any, .any, .any, .any, .any, .any, .any, .any, .any, .any, .any, .any, .any, .any, .any, .any, .any, .any, .any, .any, .any, .any, .any, .any, .any, .any, .any, .any, .any, .any, .val (Value.bool true), .val (Value.bool true), .val (Value.bool true), .val (Value.bool true), .val (a.v), .val ((invF a).v), .val (nV (num a.m)), .val (nV (rU (num a.m))), .val (Value.bool true), .val (Value.bool true), .val (Value.bool true), .val (Value.bool true), .val (Value.bool false), .val (Value.bool false), .val (r2.v), .val (nV s2), .val (Value.bool true), .val (Value.bool true), .val (Value.bool true), .val (Value.bool true), .val (Value.bool true), .val (Value.bool true)] w15 22 (gb_refl _ _) (by kernel_rfl) (by kernel_rfl) (by kernel_rfl) (by kernel_rfl) (by decide) (by kernel_rfl) ?_ ?_
                  · refine ⟨Fg.vT rfl (by decide) fun ac w h => ?_, ?_⟩
                    · have e8 : _ = Value.bool true := h.r 8
                      exact ⟨_, w, wants_none rfl, Fg.run_move rfl e8, gb_refl _ _, rfl⟩
                    refine ⟨Fg.vT rfl (by decide) fun ac w h => ?_, ?_⟩
                    · have e10 : _ = Value.bool true := h.r 10
                      exact ⟨_, w, wants_none rfl, Fg.run_move rfl e10, gb_refl _ _, rfl⟩
                    refine ⟨Fg.vT rfl (by decide) fun ac w h => ?_, ?_⟩
                    · have e80 : _ = Value.bool true := h.d 80
                      have e81 : _ = Value.bool true := h.d 81
                      refine ⟨.bool true, w, wants_none rfl, ?_, gb_refl _ _, rfl⟩
                      exact run_eqB rfl e80 e81
                    refine ⟨Fg.vT rfl (by decide) fun ac w h => ?_, ?_⟩
                    · have e82 : _ = Value.bool true := h.d 82
                      exact ⟨_, w, wants_none rfl, Fg.run_move rfl e82, gb_refl _ _, rfl⟩
                    refine ⟨Fg.vT rfl (by decide) fun ac w h => ?_, ?_⟩
                    · have e83 : _ = Value.bool true := h.d 83
                      have e2 : _ = Value.pointer (some ⟨w0.heap.size, 0, none⟩) := h.r 2
                      refine ⟨a.v, w, wants_some (d := 83) rfl rfl (by rw [h.size]; show 83 < 102; decide) e83, ?_, gb_refl _ _, rfl⟩
                      exact ldE rfl e2 (HB.out.1 w (gb_trans H15.out.1 h.base))
                    refine ⟨Fg.cT rfl (by decide) fun ac w h => ?_, ?_⟩
                    · have e83 : _ = Value.bool true := h.d 83
                      have e84 : _ = a.v := h.d 84
                      refine ⟨23, #[a.v], wants_some (d := 83) rfl rfl (by rw [h.size]; show 83 < 102; decide) e83, Fg.run_call rfl rfl (by simp only [List.map_toArray, List.map_cons, List.map_nil, Act.eval, e84]) (Fg.run_enter Tryz.func23 (by kernel_rfl) (by kernel_rfl)), ?_⟩
                      exact (c_inv a w HO.out.1).mono fun _ _ ⟨he, hg⟩ => ⟨_, he, hg, rfl⟩
                    refine ⟨Fg.vT rfl (by decide) fun ac w h => ?_, ?_⟩
                    · have e83 : _ = Value.bool true := h.d 83
                      have e5 : _ = Value.pointer (some ⟨N5, 0, none⟩) := h.r 5
                      refine ⟨nV (num a.m), w, wants_some (d := 83) rfl rfl (by rw [h.size]; show 83 < 102; decide) e83, ?_, gb_refl _ _, rfl⟩
                      exact ld rfl e5 (H15.out.2.1.gn h.base) (num_len _) rfl rfl
                    refine ⟨Fg.cT rfl (by decide) fun ac w h => ?_, ?_⟩
                    · have e83 : _ = Value.bool true := h.d 83
                      have e86 : _ = nV (num a.m) := h.d 86
                      refine ⟨46, #[nV (num a.m)], wants_some (d := 83) rfl rfl (by rw [h.size]; show 83 < 102; decide) e83, Fg.run_call rfl rfl (by simp only [List.map_toArray, List.map_cons, List.map_nil, Act.eval, e86]) (Fg.run_enter Tryz.func46 (by kernel_rfl) (by kernel_rfl)), ?_⟩
                      exact (c_rinv a w).mono fun _ _ ⟨he, hg⟩ => ⟨_, he, hg, rfl⟩
                    refine ⟨Fg.cT rfl (by decide) fun ac w h => ?_, ?_⟩
                    · have e83 : _ = Value.bool true := h.d 83
                      have e85 : _ = (invF a).v := h.d 85
                      have e87 : _ = nV (rU (num a.m)) := h.d 87
                      refine ⟨10, #[(invF a).v, nV (rU (num a.m))], wants_some (d := 83) rfl rfl (by rw [h.size]; show 83 < 102; decide) e83, Fg.run_call rfl rfl (by simp only [List.map_toArray, List.map_cons, List.map_nil, Act.eval, e85, e87]) (Fg.run_enter Tryz.func10 (by kernel_rfl) (by kernel_rfl)), ?_⟩
                      exact (is_inv w hRa).mono fun _ _ ⟨he, hg⟩ => ⟨_, he, hg, rfl⟩
                    refine ⟨Fg.vT rfl (by decide) fun ac w h => ?_, ?_⟩
                    · have e83 : _ = Value.bool true := h.d 83
                      have e88 : _ = Value.bool true := h.d 88
                      refine ⟨Value.bool true, w, wants_none rfl, ?_, gb_refl _ _, rfl⟩
                      clear h
                      simp only [execOp, Act.eval, e83, e88]
                      go_simp
                    refine ⟨Fg.vT rfl (by decide) fun ac w h => ?_, ?_⟩
                    · have e89 : _ = Value.bool true := h.d 89
                      exact ⟨_, w, wants_none rfl, Fg.run_move rfl e89, gb_refl _ _, rfl⟩
                    refine ⟨Fg.vT rfl (by decide) fun ac w h => ?_, ?_⟩
                    · have e90 : _ = Value.bool true := h.d 90
                      have e8 : _ = Value.bool true := h.r 8
                      exact ⟨_, w, wants_some (d := 90) rfl rfl (by rw [h.size]; show 90 < 102; decide) e90, Fg.run_move rfl e8, gb_refl _ _, rfl⟩
                    refine ⟨Fg.vT rfl (by decide) fun ac w h => ?_, ?_⟩
                    · have e90 : _ = Value.bool true := h.d 90
                      have e91 : _ = Value.bool true := h.d 91
                      refine ⟨Value.bool false, w, wants_some (d := 90) rfl rfl (by rw [h.size]; show 90 < 102; decide) e90, ?_, gb_refl _ _, rfl⟩
                      clear h
                      simp only [execOp, Act.eval, e91]
                      go_simp
                    refine ⟨Fg.vT rfl (by decide) fun ac w h => ?_, ?_⟩
                    · have e90 : _ = Value.bool true := h.d 90
                      have e92 : _ = Value.bool false := h.d 92
                      exact ⟨_, w, wants_some (d := 90) rfl rfl (by rw [h.size]; show 90 < 102; decide) e90, Fg.run_move rfl e92, gb_refl _ _, rfl⟩
                    refine ⟨Fg.vT rfl (by decide) fun ac w h => ?_, ?_⟩
                    · have e93 : _ = Value.bool false := h.d 93
                      have e7 : _ = Value.pointer (some ⟨N7, 0, none⟩) := h.r 7
                      refine ⟨r2.v, w, wants_some (d := 93) rfl rfl (by rw [h.size]; show 93 < 102; decide) e93, ?_, gb_refl _ _, rfl⟩
                      exact ldE rfl e7 (H15.out.2.2.1.gn h.base)
                    refine ⟨Fg.vT rfl (by decide) fun ac w h => ?_, ?_⟩
                    · have e93 : _ = Value.bool false := h.d 93
                      have e9 : _ = Value.pointer (some ⟨N9, 0, none⟩) := h.r 9
                      refine ⟨nV s2, w, wants_some (d := 93) rfl rfl (by rw [h.size]; show 93 < 102; decide) e93, ?_, gb_refl _ _, rfl⟩
                      exact ld rfl e9 (H15.out.2.2.2.gn h.base) H2q.out.len rfl rfl
                    refine ⟨Fg.cT rfl (by decide) fun ac w h => ?_, ?_⟩
                    · have e93 : _ = Value.bool false := h.d 93
                      have e94 : _ = r2.v := h.d 94
                      have e95 : _ = nV s2 := h.d 95
                      refine ⟨10, #[r2.v, nV s2], wants_some (d := 93) rfl rfl (by rw [h.size]; show 93 < 102; decide) e93, Fg.run_call rfl rfl (by simp only [List.map_toArray, List.map_cons, List.map_nil, Act.eval, e94, e95]) (Fg.run_enter Tryz.func10 (by kernel_rfl) (by kernel_rfl)), ?_⟩
                      exact (H2q.out.yes rfl w).mono fun _ _ ⟨he, hg⟩ => ⟨_, he, hg, rfl⟩
                    refine ⟨Fg.vT rfl (by decide) fun ac w h => ?_, ?_⟩
                    · have e90 : _ = Value.bool true := h.d 90
                      have e93 : _ = Value.bool false := h.d 93
                      have e96 : _ = Value.bool true := h.d 96
                      refine ⟨Value.bool true, w, wants_some (d := 90) rfl rfl (by rw [h.size]; show 90 < 102; decide) e90, ?_, gb_refl _ _, rfl⟩
                      clear h
                      simp only [execOp, Act.eval, e93, e96]
                      go_simp
                    refine ⟨Fg.vT rfl (by decide) fun ac w h => ?_, ?_⟩
                    · have e90 : _ = Value.bool true := h.d 90
                      have e97 : _ = Value.bool true := h.d 97
                      refine ⟨Value.bool true, w, wants_none rfl, ?_, gb_refl _ _, rfl⟩
                      clear h
                      simp only [execOp, Act.eval, e90, e97]
                      go_simp
                    refine ⟨Fg.vT rfl (by decide) fun ac w h => ?_, ?_⟩
                    · have e98 : _ = Value.bool true := h.d 98
                      exact ⟨_, w, wants_none rfl, Fg.run_move rfl e98, gb_refl _ _, rfl⟩
                    refine ⟨Fg.cT rfl (by decide) fun ac w h => ?_, ?_⟩
                    · have e99 : _ = Value.bool true := h.d 99
                      refine ⟨5, #[], wants_some (d := 99) rfl rfl (by rw [h.size]; show 99 < 102; decide) e99, Fg.run_call rfl rfl (by simp only [List.map_toArray, List.map_nil]) (Fg.run_enter Tryz.func5 (by kernel_rfl) (by kernel_rfl)), ?_⟩
                      exact (awake_any w (HT.out.grown (gb_trans H2.out.1 (gb_trans H15.out.1 h.base)))).mono fun _ _ ⟨he, hg⟩ => ⟨_, he, hg, rfl⟩
                    refine ⟨Fg.vT rfl (by decide) fun ac w h => ?_, ?_⟩
                    · have e99 : _ = Value.bool true := h.d 99
                      have e100 : _ = Value.bool true := h.d 100
                      refine ⟨Value.bool true, w, wants_none rfl, ?_, gb_refl _ _, rfl⟩
                      clear h
                      simp only [execOp, Act.eval, e99, e100]
                      go_simp
                    trivial
                  · intro az wz hB hsz hdf hrest hslots hpt
                    obtain ⟨⟨u80, e80⟩, ⟨u81, e81⟩, ⟨u82, e82⟩, ⟨u83, e83⟩, ⟨u84, e84⟩, ⟨u85, e85⟩, ⟨u86, e86⟩, ⟨u87, e87⟩, ⟨u88, e88⟩, ⟨u89, e89⟩, ⟨u90, e90⟩, ⟨u91, e91⟩, ⟨u92, e92⟩, ⟨u93, e93⟩, ⟨u94, e94⟩, ⟨u95, e95⟩, ⟨u96, e96⟩, ⟨u97, e97⟩, ⟨u98, e98⟩, ⟨u99, e99⟩, ⟨u100, e100⟩, _⟩ := Fg.slotvs az [80, 81, 82, 83, 84, 85, 86, 87, 88, 89, 90, 91, 92, 93, 94, 95, 96, 97, 98, 99, 100]
                    have e101 : az.tmps.getD 101 undef = Value.bool true := hslots 101 (by kernel_rfl)
                    obtain rfl := Fg.frame_is (a := az) (vs := [Value.agg #[Value.int IntKind.u64 a.x0, Value.int IntKind.u64 a.x1, Value.int IntKind.u64 a.x2, Value.int IntKind.u64 a.x3, Value.int IntKind.u64 a.x4], Value.agg #[Value.int IntKind.u64 b.x0, Value.int IntKind.u64 b.x1, Value.int IntKind.u64 b.x2, Value.int IntKind.u64 b.x3, Value.int IntKind.u64 b.x4], Value.pointer (some ⟨w0.heap.size, 0, none⟩), Value.pointer (some ⟨w0.heap.size + 1, 0, none⟩), Value.bool false, Value.pointer (some ⟨N5, 0, none⟩), Value.pointer (some ⟨N6, 0, none⟩), Value.pointer (some ⟨N7, 0, none⟩), Value.bool true, Value.pointer (some ⟨N9, 0, none⟩), Value.bool true, Value.pointer (some ⟨N11, 0, none⟩), Value.agg #[Value.int IntKind.u64 a.x0, Value.int IntKind.u64 a.x1, Value.int IntKind.u64 a.x2, Value.int IntKind.u64 a.x3, Value.int IntKind.u64 a.x4], Value.bool true, Value.bool false, Value.bool false, Value.agg #[Value.int IntKind.u64 b.x0, Value.int IntKind.u64 b.x1, Value.int IntKind.u64 b.x2, Value.int IntKind.u64 b.x3, Value.int IntKind.u64 b.x4], Value.bool true, Value.bool false, Value.bool false, undef, undef, undef, undef, undef, undef, u26, nV (num a.m), u28, nV (num b.m), Value.tuple #[r.v, Value.bool true], a.v, b.v, Value.tuple #[r.v, Value.bool true], r.v, Value.bool true, Value.tuple #[nV s, Value.bool true], nV (num a.m), nV (num b.m), Value.tuple #[nV s, Value.bool true], nV s, Value.bool true, u42, u43, u44, u45, u46, u47, u48, u49, u50, u51, u52, u53, u54, u55, u56, u57, u58, u59, u60, u61, Value.bool false, u63, u64, u65, q.v, Value.tuple #[r2.v, Value.bool true], q.v, b.v, Value.tuple #[r2.v, Value.bool true], r2.v, Value.bool true, u73, u74, u75, u76, u77, nV s2, Value.bool true, u80, u81, u82, u83, u84, u85, u86, u87, u88, u89, u90, u91, u92, u93, u94, u95, u96, u97, u98, u99, u100, Value.bool true]) hsz ⟨hrest 0 (by kernel_rfl), hrest 1 (by kernel_rfl), hrest 2 (by kernel_rfl), hrest 3 (by kernel_rfl), hrest 4 (by kernel_rfl), hrest 5 (by kernel_rfl), hrest 6 (by kernel_rfl), hrest 7 (by kernel_rfl), hrest 8 (by kernel_rfl), hrest 9 (by kernel_rfl), hrest 10 (by kernel_rfl), hrest 11 (by kernel_rfl), hrest 12 (by kernel_rfl), hrest 13 (by kernel_rfl), hrest 14 (by kernel_rfl), hrest 15 (by kernel_rfl), hrest 16 (by kernel_rfl), hrest 17 (by kernel_rfl), hrest 18 (by kernel_rfl), hrest 19 (by kernel_rfl), hrest 20 (by kernel_rfl), hrest 21 (by kernel_rfl), hrest 22 (by kernel_rfl), hrest 23 (by kernel_rfl), hrest 24 (by kernel_rfl), hrest 25 (by kernel_rfl), hrest 26 (by kernel_rfl), hrest 27 (by kernel_rfl), hrest 28 (by kernel_rfl), hrest 29 (by kernel_rfl), hrest 30 (by kernel_rfl), hrest 31 (by kernel_rfl), hrest 32 (by kernel_rfl), hrest 33 (by kernel_rfl), hrest 34 (by kernel_rfl), hrest 35 (by kernel_rfl), hrest 36 (by kernel_rfl), hrest 37 (by kernel_rfl), hrest 38 (by kernel_rfl), hrest 39 (by kernel_rfl), hrest 40 (by kernel_rfl), hrest 41 (by kernel_rfl), hrest 42 (by kernel_rfl), hrest 43 (by kernel_rfl), hrest 44 (by kernel_rfl), hrest 45 (by kernel_rfl), hrest 46 (by kernel_rfl), hrest 47 (by kernel_rfl), hrest 48 (by kernel_rfl), hrest 49 (by kernel_rfl), hrest 50 (by kernel_rfl), hrest 51 (by kernel_rfl), hrest 52 (by kernel_rfl), hrest 53 (by kernel_rfl), hrest 54 (by kernel_rfl), hrest 55 (by kernel_rfl), hrest 56 (by kernel_rfl), hrest 57 (by kernel_rfl), hrest 58 (by kernel_rfl), hrest 59 (by kernel_rfl), hrest 60 (by kernel_rfl), hrest 61 (by kernel_rfl), hrest 62 (by kernel_rfl), hrest 63 (by kernel_rfl), hrest 64 (by kernel_rfl), hrest 65 (by kernel_rfl), hrest 66 (by kernel_rfl), hrest 67 (by kernel_rfl), hrest 68 (by kernel_rfl), hrest 69 (by kernel_rfl), hrest 70 (by kernel_rfl), hrest 71 (by kernel_rfl), hrest 72 (by kernel_rfl), hrest 73 (by kernel_rfl), hrest 74 (by kernel_rfl), hrest 75 (by kernel_rfl), hrest 76 (by kernel_rfl), hrest 77 (by kernel_rfl), hrest 78 (by kernel_rfl), hrest 79 (by kernel_rfl), e80, e81, e82, e83, e84, e85, e86, e87, e88, e89, e90, e91, e92, e93, e94, e95, e96, e97, e98, e99, e100, e101, trivial⟩ hdf
                    clear hsz hdf hrest hslots hpt e80 e81 e82 e83 e84 e85 e86 e87 e88 e89 e90 e91 e92 e93 e94 e95 e96 e97 e98 e99 e100 e101
                    dsimp only
                    refine Fg.wpl_value (v := .bool true) (w' := wz) rfl (Fg.run_assign rfl rfl) ?_
                    simp only [Act.put, List.setIfInBounds_toArray, List.set_cons_succ, List.set_cons_zero]
                    refine wpList_nil ?_
                    have HF := Lib.hid (gb_trans (gb_trans H2.out.1 H15.out.1) hB); clear hB
                    go_wp2
                    go_ret
                    exact ⟨rfl, HF.out⟩
                | false =>
                  go_upto_region 13 with (fail)
                  refine Fg.region_t [] [.any, .any, .any, .any, .any, .any, .any, .any, .any, .any, .any, .any, .any, .any, .any, .any, .any, .any, .any, .any, .any, .any, .any, .any, .any, .any, .any, .any, .any, .any, .any, .any, .any, .any, .any, .any, .any, .any, .any, .any, .any, .any, .any, .any, .any, .any, .any, .any, .any, .any, .any, .any, .any, .any, .any, .any, .any, .any, .any, .any, .any, .any, .any, .any, .any, .any, .any, .any, .any, .any, .any, .any, .any, .any, .any, .any, .any, .any, .any, .any, .val (Value.bool false), .val (Value.bool false), .val (Value.bool true), .val (Value.bool true), .val (a.v), .val ((invF a).v), .val (nV (num a.m)), .val (nV (rU (num a.m))), .val (Value.bool true), .val (Value.bool true), .val (Value.bool true), .val (Value.bool false), .val (Value.bool true), .val (Value.bool true), .val undef, .val undef, .val undef, .val (Value.bool true), .val (Value.bool true), .val (Value.bool true), .val (Value.bool true), .val (Value.bool true)] w15 22 (gb_refl _ _) (by kernel_rfl) (by kernel_rfl) (by kernel_rfl) (by kernel_rfl) (by decide) (by kernel_rfl) ?_ ?_
                  · refine ⟨Fg.vT rfl (by decide) fun ac w h => ?_, ?_⟩
                    · have e8 : _ = Value.bool false := h.r 8
                      exact ⟨_, w, wants_none rfl, Fg.run_move rfl e8, gb_refl _ _, rfl⟩
                    refine ⟨Fg.vT rfl (by decide) fun ac w h => ?_, ?_⟩
                    · have e10 : _ = Value.bool false := h.r 10
                      exact ⟨_, w, wants_none rfl, Fg.run_move rfl e10, gb_refl _ _, rfl⟩
                    refine ⟨Fg.vT rfl (by decide) fun ac w h => ?_, ?_⟩
                    · have e80 : _ = Value.bool false := h.d 80
                      have e81 : _ = Value.bool false := h.d 81
                      refine ⟨.bool true, w, wants_none rfl, ?_, gb_refl _ _, rfl⟩
                      exact run_eqB rfl e80 e81
                    refine ⟨Fg.vT rfl (by decide) fun ac w h => ?_, ?_⟩
                    · have e82 : _ = Value.bool true := h.d 82
                      exact ⟨_, w, wants_none rfl, Fg.run_move rfl e82, gb_refl _ _, rfl⟩
                    refine ⟨Fg.vT rfl (by decide) fun ac w h => ?_, ?_⟩
                    · have e83 : _ = Value.bool true := h.d 83
                      have e2 : _ = Value.pointer (some ⟨w0.heap.size, 0, none⟩) := h.r 2
                      refine ⟨a.v, w, wants_some (d := 83) rfl rfl (by rw [h.size]; show 83 < 102; decide) e83, ?_, gb_refl _ _, rfl⟩
                      exact ldE rfl e2 (HB.out.1 w (gb_trans H15.out.1 h.base))
                    refine ⟨Fg.cT rfl (by decide) fun ac w h => ?_, ?_⟩
                    · have e83 : _ = Value.bool true := h.d 83
                      have e84 : _ = a.v := h.d 84
                      refine ⟨23, #[a.v], wants_some (d := 83) rfl rfl (by rw [h.size]; show 83 < 102; decide) e83, Fg.run_call rfl rfl (by simp only [List.map_toArray, List.map_cons, List.map_nil, Act.eval, e84]) (Fg.run_enter Tryz.func23 (by kernel_rfl) (by kernel_rfl)), ?_⟩
                      exact (c_inv a w HO.out.1).mono fun _ _ ⟨he, hg⟩ => ⟨_, he, hg, rfl⟩
                    refine ⟨Fg.vT rfl (by decide) fun ac w h => ?_, ?_⟩
                    · have e83 : _ = Value.bool true := h.d 83
                      have e5 : _ = Value.pointer (some ⟨N5, 0, none⟩) := h.r 5
                      refine ⟨nV (num a.m), w, wants_some (d := 83) rfl rfl (by rw [h.size]; show 83 < 102; decide) e83, ?_, gb_refl _ _, rfl⟩
                      exact ld rfl e5 (H15.out.2.1.gn h.base) (num_len _) rfl rfl
                    refine ⟨Fg.cT rfl (by decide) fun ac w h => ?_, ?_⟩
                    · have e83 : _ = Value.bool true := h.d 83
                      have e86 : _ = nV (num a.m) := h.d 86
                      refine ⟨46, #[nV (num a.m)], wants_some (d := 83) rfl rfl (by rw [h.size]; show 83 < 102; decide) e83, Fg.run_call rfl rfl (by simp only [List.map_toArray, List.map_cons, List.map_nil, Act.eval, e86]) (Fg.run_enter Tryz.func46 (by kernel_rfl) (by kernel_rfl)), ?_⟩
                      exact (c_rinv a w).mono fun _ _ ⟨he, hg⟩ => ⟨_, he, hg, rfl⟩
                    refine ⟨Fg.cT rfl (by decide) fun ac w h => ?_, ?_⟩
                    · have e83 : _ = Value.bool true := h.d 83
                      have e85 : _ = (invF a).v := h.d 85
                      have e87 : _ = nV (rU (num a.m)) := h.d 87
                      refine ⟨10, #[(invF a).v, nV (rU (num a.m))], wants_some (d := 83) rfl rfl (by rw [h.size]; show 83 < 102; decide) e83, Fg.run_call rfl rfl (by simp only [List.map_toArray, List.map_cons, List.map_nil, Act.eval, e85, e87]) (Fg.run_enter Tryz.func10 (by kernel_rfl) (by kernel_rfl)), ?_⟩
                      exact (is_inv w hRa).mono fun _ _ ⟨he, hg⟩ => ⟨_, he, hg, rfl⟩
                    refine ⟨Fg.vT rfl (by decide) fun ac w h => ?_, ?_⟩
                    · have e83 : _ = Value.bool true := h.d 83
                      have e88 : _ = Value.bool true := h.d 88
                      refine ⟨Value.bool true, w, wants_none rfl, ?_, gb_refl _ _, rfl⟩
                      clear h
                      simp only [execOp, Act.eval, e83, e88]
                      go_simp
                    refine ⟨Fg.vT rfl (by decide) fun ac w h => ?_, ?_⟩
                    · have e89 : _ = Value.bool true := h.d 89
                      exact ⟨_, w, wants_none rfl, Fg.run_move rfl e89, gb_refl _ _, rfl⟩
                    refine ⟨Fg.vT rfl (by decide) fun ac w h => ?_, ?_⟩
                    · have e90 : _ = Value.bool true := h.d 90
                      have e8 : _ = Value.bool false := h.r 8
                      exact ⟨_, w, wants_some (d := 90) rfl rfl (by rw [h.size]; show 90 < 102; decide) e90, Fg.run_move rfl e8, gb_refl _ _, rfl⟩
                    refine ⟨Fg.vT rfl (by decide) fun ac w h => ?_, ?_⟩
                    · have e90 : _ = Value.bool true := h.d 90
                      have e91 : _ = Value.bool false := h.d 91
                      refine ⟨Value.bool true, w, wants_some (d := 90) rfl rfl (by rw [h.size]; show 90 < 102; decide) e90, ?_, gb_refl _ _, rfl⟩
                      clear h
                      simp only [execOp, Act.eval, e91]
                      go_simp
                    refine ⟨Fg.vT rfl (by decide) fun ac w h => ?_, ?_⟩
                    · have e90 : _ = Value.bool true := h.d 90
                      have e92 : _ = Value.bool true := h.d 92
                      exact ⟨_, w, wants_some (d := 90) rfl rfl (by rw [h.size]; show 90 < 102; decide) e90, Fg.run_move rfl e92, gb_refl _ _, rfl⟩
                    refine ⟨Fg.sT rfl (by decide) (fun _ => rfl) fun ac w h => ?_, ?_⟩
                    · have e93 : _ = Value.bool true := h.d 93
                      exact not_wants (d := 93) rfl rfl (by rw [h.size]; show 93 < 102; decide) e93 (by decide)
                    refine ⟨Fg.sT rfl (by decide) (fun _ => rfl) fun ac w h => ?_, ?_⟩
                    · have e93 : _ = Value.bool true := h.d 93
                      exact not_wants (d := 93) rfl rfl (by rw [h.size]; show 93 < 102; decide) e93 (by decide)
                    refine ⟨Fg.sT rfl (by decide) (fun _ => rfl) fun ac w h => ?_, ?_⟩
                    · have e93 : _ = Value.bool true := h.d 93
                      exact not_wants (d := 93) rfl rfl (by rw [h.size]; show 93 < 102; decide) e93 (by decide)
                    refine ⟨Fg.vT rfl (by decide) fun ac w h => ?_, ?_⟩
                    · have e90 : _ = Value.bool true := h.d 90
                      have e93 : _ = Value.bool true := h.d 93
                      refine ⟨Value.bool true, w, wants_some (d := 90) rfl rfl (by rw [h.size]; show 90 < 102; decide) e90, ?_, gb_refl _ _, rfl⟩
                      clear h
                      simp only [execOp, Act.eval, e93]
                      go_simp
                    refine ⟨Fg.vT rfl (by decide) fun ac w h => ?_, ?_⟩
                    · have e90 : _ = Value.bool true := h.d 90
                      have e97 : _ = Value.bool true := h.d 97
                      refine ⟨Value.bool true, w, wants_none rfl, ?_, gb_refl _ _, rfl⟩
                      clear h
                      simp only [execOp, Act.eval, e90, e97]
                      go_simp
                    refine ⟨Fg.vT rfl (by decide) fun ac w h => ?_, ?_⟩
                    · have e98 : _ = Value.bool true := h.d 98
                      exact ⟨_, w, wants_none rfl, Fg.run_move rfl e98, gb_refl _ _, rfl⟩
                    refine ⟨Fg.cT rfl (by decide) fun ac w h => ?_, ?_⟩
                    · have e99 : _ = Value.bool true := h.d 99
                      refine ⟨5, #[], wants_some (d := 99) rfl rfl (by rw [h.size]; show 99 < 102; decide) e99, Fg.run_call rfl rfl (by simp only [List.map_toArray, List.map_nil]) (Fg.run_enter Tryz.func5 (by kernel_rfl) (by kernel_rfl)), ?_⟩
                      exact (awake_any w (HT.out.grown (gb_trans H2.out.1 (gb_trans H15.out.1 h.base)))).mono fun _ _ ⟨he, hg⟩ => ⟨_, he, hg, rfl⟩
                    refine ⟨Fg.vT rfl (by decide) fun ac w h => ?_, ?_⟩
                    · have e99 : _ = Value.bool true := h.d 99
                      have e100 : _ = Value.bool true := h.d 100
                      refine ⟨Value.bool true, w, wants_none rfl, ?_, gb_refl _ _, rfl⟩
                      clear h
                      simp only [execOp, Act.eval, e99, e100]
                      go_simp
                    trivial
                  · intro az wz hB hsz hdf hrest hslots hpt
                    obtain ⟨⟨u80, e80⟩, ⟨u81, e81⟩, ⟨u82, e82⟩, ⟨u83, e83⟩, ⟨u84, e84⟩, ⟨u85, e85⟩, ⟨u86, e86⟩, ⟨u87, e87⟩, ⟨u88, e88⟩, ⟨u89, e89⟩, ⟨u90, e90⟩, ⟨u91, e91⟩, ⟨u92, e92⟩, ⟨u93, e93⟩, ⟨u94, e94⟩, ⟨u95, e95⟩, ⟨u96, e96⟩, ⟨u97, e97⟩, ⟨u98, e98⟩, ⟨u99, e99⟩, ⟨u100, e100⟩, _⟩ := Fg.slotvs az [80, 81, 82, 83, 84, 85, 86, 87, 88, 89, 90, 91, 92, 93, 94, 95, 96, 97, 98, 99, 100]
                    have e101 : az.tmps.getD 101 undef = Value.bool true := hslots 101 (by kernel_rfl)
                    obtain rfl := Fg.frame_is (a := az) (vs := [Value.agg #[Value.int IntKind.u64 a.x0, Value.int IntKind.u64 a.x1, Value.int IntKind.u64 a.x2, Value.int IntKind.u64 a.x3, Value.int IntKind.u64 a.x4], Value.agg #[Value.int IntKind.u64 b.x0, Value.int IntKind.u64 b.x1, Value.int IntKind.u64 b.x2, Value.int IntKind.u64 b.x3, Value.int IntKind.u64 b.x4], Value.pointer (some ⟨w0.heap.size, 0, none⟩), Value.pointer (some ⟨w0.heap.size + 1, 0, none⟩), Value.bool false, Value.pointer (some ⟨N5, 0, none⟩), Value.pointer (some ⟨N6, 0, none⟩), Value.pointer (some ⟨N7, 0, none⟩), Value.bool false, Value.pointer (some ⟨N9, 0, none⟩), Value.bool false, Value.pointer (some ⟨N11, 0, none⟩), Value.agg #[Value.int IntKind.u64 a.x0, Value.int IntKind.u64 a.x1, Value.int IntKind.u64 a.x2, Value.int IntKind.u64 a.x3, Value.int IntKind.u64 a.x4], Value.bool true, Value.bool false, Value.bool false, Value.agg #[Value.int IntKind.u64 b.x0, Value.int IntKind.u64 b.x1, Value.int IntKind.u64 b.x2, Value.int IntKind.u64 b.x3, Value.int IntKind.u64 b.x4], Value.bool true, Value.bool false, Value.bool false, undef, undef, undef, undef, undef, undef, u26, nV (num a.m), u28, nV (num b.m), Value.tuple #[r.v, Value.bool true], a.v, b.v, Value.tuple #[r.v, Value.bool true], r.v, Value.bool true, Value.tuple #[nV s, Value.bool true], nV (num a.m), nV (num b.m), Value.tuple #[nV s, Value.bool true], nV s, Value.bool true, u42, u43, u44, u45, u46, u47, u48, u49, u50, u51, u52, u53, u54, u55, u56, u57, u58, u59, u60, u61, Value.bool false, u63, u64, u65, q.v, Value.tuple #[r2.v, Value.bool false], q.v, b.v, Value.tuple #[r2.v, Value.bool false], r2.v, Value.bool false, u73, u74, u75, u76, u77, nV s2, Value.bool false, u80, u81, u82, u83, u84, u85, u86, u87, u88, u89, u90, u91, u92, u93, u94, u95, u96, u97, u98, u99, u100, Value.bool true]) hsz ⟨hrest 0 (by kernel_rfl), hrest 1 (by kernel_rfl), hrest 2 (by kernel_rfl), hrest 3 (by kernel_rfl), hrest 4 (by kernel_rfl), hrest 5 (by kernel_rfl), hrest 6 (by kernel_rfl), hrest 7 (by kernel_rfl), hrest 8 (by kernel_rfl), hrest 9 (by kernel_rfl), hrest 10 (by kernel_rfl), hrest 11 (by kernel_rfl), hrest 12 (by kernel_rfl), hrest 13 (by kernel_rfl), hrest 14 (by kernel_rfl), hrest 15 (by kernel_rfl), hrest 16 (by kernel_rfl), hrest 17 (by kernel_rfl), hrest 18 (by kernel_rfl), hrest 19 (by kernel_rfl), hrest 20 (by kernel_rfl), hrest 21 (by kernel_rfl), hrest 22 (by kernel_rfl), hrest 23 (by kernel_rfl), hrest 24 (by kernel_rfl), hrest 25 (by kernel_rfl), hrest 26 (by kernel_rfl), hrest 27 (by kernel_rfl), hrest 28 (by kernel_rfl), hrest 29 (by kernel_rfl), hrest 30 (by kernel_rfl), hrest 31 (by kernel_rfl), hrest 32 (by kernel_rfl), hrest 33 (by kernel_rfl), hrest 34 (by kernel_rfl), hrest 35 (by kernel_rfl), hrest 36 (by kernel_rfl), hrest 37 (by kernel_rfl), hrest 38 (by kernel_rfl), hrest 39 (by kernel_rfl), hrest 40 (by kernel_rfl), hrest 41 (by kernel_rfl), hrest 42 (by kernel_rfl), hrest 43 (by kernel_rfl), hrest 44 (by kernel_rfl), hrest 45 (by kernel_rfl), hrest 46 (by kernel_rfl), hrest 47 (by kernel_rfl), hrest 48 (by kernel_rfl), hrest 49 (by kernel_rfl), hrest 50 (by kernel_rfl), hrest 51 (by kernel_rfl), hrest 52 (by kernel_rfl), hrest 53 (by kernel_rfl), hrest 54 (by kernel_rfl), hrest 55 (by kernel_rfl), hrest 56 (by kernel_rfl), hrest 57 (by kernel_rfl), hrest 58 (by kernel_rfl), hrest 59 (by kernel_rfl), hrest 60 (by kernel_rfl), hrest 61 (by kernel_rfl), hrest 62 (by kernel_rfl), hrest 63 (by kernel_rfl), hrest 64 (by kernel_rfl), hrest 65 (by kernel_rfl), hrest 66 (by kernel_rfl), hrest 67 (by kernel_rfl), hrest 68 (by kernel_rfl), hrest 69 (by kernel_rfl), hrest 70 (by kernel_rfl), hrest 71 (by kernel_rfl), hrest 72 (by kernel_rfl), hrest 73 (by kernel_rfl), hrest 74 (by kernel_rfl), hrest 75 (by kernel_rfl), hrest 76 (by kernel_rfl), hrest 77 (by kernel_rfl), hrest 78 (by kernel_rfl), hrest 79 (by kernel_rfl), e80, e81, e82, e83, e84, e85, e86, e87, e88, e89, e90, e91, e92, e93, e94, e95, e96, e97, e98, e99, e100, e101, trivial⟩ hdf
                    clear hsz hdf hrest hslots hpt e80 e81 e82 e83 e84 e85 e86 e87 e88 e89 e90 e91 e92 e93 e94 e95 e96 e97 e98 e99 e100 e101
                    dsimp only
                    refine Fg.wpl_value (v := .bool true) (w' := wz) rfl (Fg.run_assign rfl rfl) ?_
                    simp only [Act.put, List.setIfInBounds_toArray, List.set_cons_succ, List.set_cons_zero]
                    refine wpList_nil ?_
                    have HF := Lib.hid (gb_trans (gb_trans H2.out.1 H15.out.1) hB); clear hB
                    go_wp2
                    go_ret
                    exact ⟨rfl, HF.out⟩
        | false =>
          have hz := HQ.out.no rfl
          refine Fg.region_p [] [.any, .any, .any, .any, .any, .any, .any, .any, .any, .any, .any, .any, .any, .any, .any, .any, .any, .any, .any, .any, .any, .any, .any, .any, .any, .any, .any, .any, .any, .any, .any, .any, .any, .any, .any, .any, .any, .any, .any, .any, .any, .any, .val (Value.bool false), .val (Value.bool false), .val (Value.bool false), .val (Value.bool false), .val (Value.bool false), .val (Value.bool false), .val undef, .val undef, .val undef, .val undef, .val (Value.bool false), .val (Value.bool false), .val (Value.bool false), .val (Value.bool false), .val (Value.bool true), .val (Value.bool true), .val (Fe.zeroF.v), .val (Fe.zeroF.v), .val (Value.bool false), .val (Value.bool false), .val (Value.bool false)] w10 21 (gb_refl _ _) (by kernel_rfl) (by kernel_rfl) (by kernel_rfl) (by kernel_rfl) (by decide) (by kernel_rfl) ?_ ?_
          · refine ⟨Fg.vT rfl (by decide) fun ac w h => ?_, ?_⟩
            · have e8 : _ = Value.bool false := h.r 8
              exact ⟨_, w, wants_none rfl, Fg.run_move rfl e8, gb_refl _ _, rfl⟩
            refine ⟨Fg.vT rfl (by decide) fun ac w h => ?_, ?_⟩
            · have e10 : _ = Value.bool false := h.r 10
              exact ⟨_, w, wants_none rfl, Fg.run_move rfl e10, gb_refl _ _, rfl⟩
            refine ⟨Fg.vT rfl (by decide) fun ac w h => ?_, ?_⟩
            · have e42 : _ = Value.bool false := h.d 42
              have e43 : _ = Value.bool false := h.d 43
              refine ⟨.bool false, w, wants_none rfl, ?_, gb_refl _ _, rfl⟩
              clear h
              simp only [execOp, Act.eval, e42, e43]
              go_simp
            refine ⟨Fg.vT rfl (by decide) fun ac w h => ?_, ?_⟩
            · have e44 : _ = Value.bool false := h.d 44
              exact ⟨_, w, wants_none rfl, Fg.run_move rfl e44, gb_refl _ _, rfl⟩
            refine ⟨Fg.vT rfl (by decide) fun ac w h => ?_, ?_⟩
            · have e45 : _ = Value.bool false := h.d 45
              have e8 : _ = Value.bool false := h.r 8
              exact ⟨_, w, wants_some (d := 45) rfl rfl (by rw [h.size]; show 45 < 102; decide) e45, Fg.run_move rfl e8, gb_refl _ _, rfl⟩
            refine ⟨Fg.vT rfl (by decide) fun ac w h => ?_, ?_⟩
            · have e45 : _ = Value.bool false := h.d 45
              have e46 : _ = Value.bool false := h.d 46
              exact ⟨_, w, wants_some (d := 45) rfl rfl (by rw [h.size]; show 45 < 102; decide) e45, Fg.run_move rfl e46, gb_refl _ _, rfl⟩
            refine ⟨Fg.sT rfl (by decide) (fun _ => rfl) fun ac w h => ?_, ?_⟩
            · have e47 : _ = Value.bool false := h.d 47
              exact not_wants (d := 47) rfl rfl (by rw [h.size]; show 47 < 102; decide) e47 (by decide)
            refine ⟨Fg.sT rfl (by decide) (fun _ => rfl) fun ac w h => ?_, ?_⟩
            · have e47 : _ = Value.bool false := h.d 47
              exact not_wants (d := 47) rfl rfl (by rw [h.size]; show 47 < 102; decide) e47 (by decide)
            refine ⟨Fg.sT rfl (by decide) (fun _ => rfl) fun ac w h => ?_, ?_⟩
            · have e47 : _ = Value.bool false := h.d 47
              exact not_wants (d := 47) rfl rfl (by rw [h.size]; show 47 < 102; decide) e47 (by decide)
            refine ⟨Fg.sT rfl (by decide) (fun _ => rfl) fun ac w h => ?_, ?_⟩
            · have e47 : _ = Value.bool false := h.d 47
              exact not_wants (d := 47) rfl rfl (by rw [h.size]; show 47 < 102; decide) e47 (by decide)
            refine ⟨Fg.vT rfl (by decide) fun ac w h => ?_, ?_⟩
            · have e45 : _ = Value.bool false := h.d 45
              have e47 : _ = Value.bool false := h.d 47
              refine ⟨Value.bool false, w, wants_some (d := 45) rfl rfl (by rw [h.size]; show 45 < 102; decide) e45, ?_, gb_refl _ _, rfl⟩
              clear h
              simp only [execOp, Act.eval, e47]
              go_simp
            refine ⟨Fg.vT rfl (by decide) fun ac w h => ?_, ?_⟩
            · have e45 : _ = Value.bool false := h.d 45
              have e52 : _ = Value.bool false := h.d 52
              refine ⟨Value.bool false, w, wants_none rfl, ?_, gb_refl _ _, rfl⟩
              clear h
              simp only [execOp, Act.eval, e45, e52]
              go_simp
            refine ⟨Fg.vT rfl (by decide) fun ac w h => ?_, ?_⟩
            · have e53 : _ = Value.bool false := h.d 53
              exact ⟨_, w, wants_none rfl, Fg.run_move rfl e53, gb_refl _ _, rfl⟩
            refine ⟨Fg.vT rfl (by decide) fun ac w h => ?_, ?_⟩
            · have e54 : _ = Value.bool false := h.d 54
              have e8 : _ = Value.bool false := h.r 8
              exact ⟨_, w, wants_some (d := 54) rfl rfl (by rw [h.size]; show 54 < 102; decide) e54, Fg.run_move rfl e8, gb_refl _ _, rfl⟩
            refine ⟨Fg.vT rfl (by decide) fun ac w h => ?_, ?_⟩
            · have e54 : _ = Value.bool false := h.d 54
              have e55 : _ = Value.bool false := h.d 55
              refine ⟨Value.bool true, w, wants_some (d := 54) rfl rfl (by rw [h.size]; show 54 < 102; decide) e54, ?_, gb_refl _ _, rfl⟩
              clear h
              simp only [execOp, Act.eval, e55]
              go_simp
            refine ⟨Fg.vT rfl (by decide) fun ac w h => ?_, ?_⟩
            · have e54 : _ = Value.bool false := h.d 54
              have e56 : _ = Value.bool true := h.d 56
              exact ⟨_, w, wants_some (d := 54) rfl rfl (by rw [h.size]; show 54 < 102; decide) e54, Fg.run_move rfl e56, gb_refl _ _, rfl⟩
            refine ⟨Fg.vT rfl (by decide) fun ac w h => ?_, ?_⟩
            · have e57 : _ = Value.bool true := h.d 57
              have e7 : _ = Value.pointer (some ⟨N7, 0, none⟩) := h.r 7
              refine ⟨Fe.zeroF.v, w, wants_some (d := 57) rfl rfl (by rw [h.size]; show 57 < 102; decide) e57, ?_, gb_refl _ _, rfl⟩
              exact ldE rfl e7 ((hz ▸ H10.out.2.2.2.1).grown h.base (by simp))
            refine ⟨Fg.vT rfl (by decide) fun ac w h => ?_, ?_⟩
            · have e57 : _ = Value.bool true := h.d 57
              refine ⟨Fe.zeroF.v, w, wants_some (d := 57) rfl rfl (by rw [h.size]; show 57 < 102; decide) e57, ?_, gb_refl _ _, rfl⟩
              clear h
              simp only [execOp]
              go_simp
              rfl
            refine ⟨Fg.vT rfl (by decide) fun ac w h => ?_, ?_⟩
            · have e57 : _ = Value.bool true := h.d 57
              have e58 : _ = Fe.zeroF.v := h.d 58
              have e59 : _ = Fe.zeroF.v := h.d 59
              refine ⟨.bool false, w, wants_some (d := 57) rfl rfl (by rw [h.size]; show 57 < 102; decide) e57, ?_, gb_refl _ _, rfl⟩
              exact run_neE0 rfl e58 e59
            refine ⟨Fg.vT rfl (by decide) fun ac w h => ?_, ?_⟩
            · have e54 : _ = Value.bool false := h.d 54
              have e57 : _ = Value.bool true := h.d 57
              have e60 : _ = Value.bool false := h.d 60
              refine ⟨Value.bool false, w, wants_some (d := 54) rfl rfl (by rw [h.size]; show 54 < 102; decide) e54, ?_, gb_refl _ _, rfl⟩
              clear h
              simp only [execOp, Act.eval, e57, e60]
              go_simp
            refine ⟨Fg.vT rfl (by decide) fun ac w h => ?_, ?_⟩
            · have e54 : _ = Value.bool false := h.d 54
              have e61 : _ = Value.bool false := h.d 61
              refine ⟨Value.bool false, w, wants_none rfl, ?_, gb_refl _ _, rfl⟩
              clear h
              simp only [execOp, Act.eval, e54, e61]
              go_simp
            trivial
          · intro ap wp hB hsz hdf hrest hslots hpt
            obtain ⟨⟨u42, e42⟩, ⟨u43, e43⟩, ⟨u44, e44⟩, ⟨u45, e45⟩, ⟨u46, e46⟩, ⟨u47, e47⟩, ⟨u48, e48⟩, ⟨u49, e49⟩, ⟨u50, e50⟩, ⟨u51, e51⟩, ⟨u52, e52⟩, ⟨u53, e53⟩, ⟨u54, e54⟩, ⟨u55, e55⟩, ⟨u56, e56⟩, ⟨u57, e57⟩, ⟨u58, e58⟩, ⟨u59, e59⟩, ⟨u60, e60⟩, ⟨u61, e61⟩, _⟩ := Fg.slotvs ap [42, 43, 44, 45, 46, 47, 48, 49, 50, 51, 52, 53, 54, 55, 56, 57, 58, 59, 60, 61]
            have e62 : ap.tmps.getD 62 undef = Value.bool false := hslots 62 (by kernel_rfl)
            obtain rfl := Fg.frame_is (a := ap) (vs := [Value.agg #[Value.int IntKind.u64 a.x0, Value.int IntKind.u64 a.x1, Value.int IntKind.u64 a.x2, Value.int IntKind.u64 a.x3, Value.int IntKind.u64 a.x4], Value.agg #[Value.int IntKind.u64 b.x0, Value.int IntKind.u64 b.x1, Value.int IntKind.u64 b.x2, Value.int IntKind.u64 b.x3, Value.int IntKind.u64 b.x4], Value.pointer (some ⟨w0.heap.size, 0, none⟩), Value.pointer (some ⟨w0.heap.size + 1, 0, none⟩), Value.bool false, Value.pointer (some ⟨N5, 0, none⟩), Value.pointer (some ⟨N6, 0, none⟩), Value.pointer (some ⟨N7, 0, none⟩), Value.bool false, Value.pointer (some ⟨N9, 0, none⟩), Value.bool false, undef, Value.agg #[Value.int IntKind.u64 a.x0, Value.int IntKind.u64 a.x1, Value.int IntKind.u64 a.x2, Value.int IntKind.u64 a.x3, Value.int IntKind.u64 a.x4], Value.bool true, Value.bool false, Value.bool false, Value.agg #[Value.int IntKind.u64 b.x0, Value.int IntKind.u64 b.x1, Value.int IntKind.u64 b.x2, Value.int IntKind.u64 b.x3, Value.int IntKind.u64 b.x4], Value.bool true, Value.bool false, Value.bool false, undef, undef, undef, undef, undef, undef, u26, nV (num a.m), u28, nV (num b.m), Value.tuple #[r.v, Value.bool false], a.v, b.v, Value.tuple #[r.v, Value.bool false], r.v, Value.bool false, Value.tuple #[nV s, Value.bool false], nV (num a.m), nV (num b.m), Value.tuple #[nV s, Value.bool false], nV s, Value.bool false, u42, u43, u44, u45, u46, u47, u48, u49, u50, u51, u52, u53, u54, u55, u56, u57, u58, u59, u60, u61, Value.bool false, undef, undef, undef, undef, undef, undef, undef, undef, undef, undef, undef, undef, undef, undef, undef, undef, undef, undef, undef, undef, undef, undef, undef, undef, undef, undef, undef, undef, undef, undef, undef, undef, undef, undef, undef, undef, undef, undef, undef]) hsz ⟨hrest 0 (by kernel_rfl), hrest 1 (by kernel_rfl), hrest 2 (by kernel_rfl), hrest 3 (by kernel_rfl), hrest 4 (by kernel_rfl), hrest 5 (by kernel_rfl), hrest 6 (by kernel_rfl), hrest 7 (by kernel_rfl), hrest 8 (by kernel_rfl), hrest 9 (by kernel_rfl), hrest 10 (by kernel_rfl), hrest 11 (by kernel_rfl), hrest 12 (by kernel_rfl), hrest 13 (by kernel_rfl), hrest 14 (by kernel_rfl), hrest 15 (by kernel_rfl), hrest 16 (by kernel_rfl), hrest 17 (by kernel_rfl), hrest 18 (by kernel_rfl), hrest 19 (by kernel_rfl), hrest 20 (by kernel_rfl), hrest 21 (by kernel_rfl), hrest 22 (by kernel_rfl), hrest 23 (by kernel_rfl), hrest 24 (by kernel_rfl), hrest 25 (by kernel_rfl), hrest 26 (by kernel_rfl), hrest 27 (by kernel_rfl), hrest 28 (by kernel_rfl), hrest 29 (by kernel_rfl), hrest 30 (by kernel_rfl), hrest 31 (by kernel_rfl), hrest 32 (by kernel_rfl), hrest 33 (by kernel_rfl), hrest 34 (by kernel_rfl), hrest 35 (by kernel_rfl), hrest 36 (by kernel_rfl), hrest 37 (by kernel_rfl), hrest 38 (by kernel_rfl), hrest 39 (by kernel_rfl), hrest 40 (by kernel_rfl), hrest 41 (by kernel_rfl), e42, e43, e44, e45, e46, e47, e48, e49, e50, e51, e52, e53, e54, e55, e56, e57, e58, e59, e60, e61, e62, hrest 63 (by kernel_rfl), hrest 64 (by kernel_rfl), hrest 65 (by kernel_rfl), hrest 66 (by kernel_rfl), hrest 67 (by kernel_rfl), hrest 68 (by kernel_rfl), hrest 69 (by kernel_rfl), hrest 70 (by kernel_rfl), hrest 71 (by kernel_rfl), hrest 72 (by kernel_rfl), hrest 73 (by kernel_rfl), hrest 74 (by kernel_rfl), hrest 75 (by kernel_rfl), hrest 76 (by kernel_rfl), hrest 77 (by kernel_rfl), hrest 78 (by kernel_rfl), hrest 79 (by kernel_rfl), hrest 80 (by kernel_rfl), hrest 81 (by kernel_rfl), hrest 82 (by kernel_rfl), hrest 83 (by kernel_rfl), hrest 84 (by kernel_rfl), hrest 85 (by kernel_rfl), hrest 86 (by kernel_rfl), hrest 87 (by kernel_rfl), hrest 88 (by kernel_rfl), hrest 89 (by kernel_rfl), hrest 90 (by kernel_rfl), hrest 91 (by kernel_rfl), hrest 92 (by kernel_rfl), hrest 93 (by kernel_rfl), hrest 94 (by kernel_rfl), hrest 95 (by kernel_rfl), hrest 96 (by kernel_rfl), hrest 97 (by kernel_rfl), hrest 98 (by kernel_rfl), hrest 99 (by kernel_rfl), hrest 100 (by kernel_rfl), hrest 101 (by kernel_rfl), trivial⟩ hdf
            clear hsz hdf hrest hslots hpt e42 e43 e44 e45 e46 e47 e48 e49 e50 e51 e52 e53 e54 e55 e56 e57 e58 e59 e60 e61 e62
            dsimp only
            refine wpList_nil ?_
            have H11 := Lib.hid (And.intro (gb_trans H10.out.1 hB) (And.intro (H10.out.2.1.gn hB) (And.intro (H10.out.2.2.1.gn hB) (And.intro (H10.out.2.2.2.1.gn hB) (H10.out.2.2.2.2.gn hB))))); clear hB
            have x5 := H11.out.2.1.lt
            have x6 := H11.out.2.2.1.lt
            have x7 := H11.out.2.2.2.1.lt
            have x9 := H11.out.2.2.2.2.lt
            have x2 := H11.out.1.size
            go_upto_region 10 with (fail)
            refine Fg.region_t [11] [.any, .any, .any, .any, .any, .any, .any, .any, .any, .any, .any, .fresh 27 (feL Fe.zeroF) wp.heap.size, .any, .any, .any, .any, .any, .any, .any, .any, .any, .any, .any, .any, .any, .any, .any, .any, .any, .any, .any, .any, .any, .any, .any, .any, .any, .any, .any, .any, .any, .any, .any, .any, .any, .any, .any, .any, .any, .any, .any, .any, .any, .any, .any, .any, .any, .any, .any, .any, .any, .any, .any, .val (a.v), .val ((Fe.sqF a).v), .val (b.v), .val (q.v)] wp 5 (gb_refl _ _) (by kernel_rfl) (by kernel_rfl) (by kernel_rfl) (by kernel_rfl) (by decide) (by kernel_rfl) ?_ ?_
            · refine ⟨Fg.vT rfl (by decide) fun ac w h => ?_, ?_⟩
              · have e2 : _ = Value.pointer (some ⟨w0.heap.size, 0, none⟩) := h.r 2
                refine ⟨a.v, w, wants_none rfl, ?_, gb_refl _ _, rfl⟩
                exact ldE rfl e2 (HB.out.1 w (gb_trans H11.out.1 h.base))
              refine ⟨Fg.cT rfl (by decide) fun ac w h => ?_, ?_⟩
              · have e63 : _ = a.v := h.d 63
                refine ⟨38, #[a.v], wants_none rfl, Fg.run_call rfl rfl (by simp only [List.map_toArray, List.map_cons, List.map_nil, Act.eval, e63]) (Fg.run_enter Tryz.func38 (by kernel_rfl) (by kernel_rfl)), ?_⟩
                exact (feOut_and (sq_fe a w HO.out.1)).mono fun _ _ ⟨he, hg⟩ => ⟨_, he, hg, rfl⟩
              refine ⟨Fg.vT rfl (by decide) fun ac w h => ?_, ?_⟩
              · have e3 : _ = Value.pointer (some ⟨w0.heap.size + 1, 0, none⟩) := h.r 3
                refine ⟨b.v, w, wants_none rfl, ?_, gb_refl _ _, rfl⟩
                exact ldE rfl e3 (HB.out.2 w (gb_trans H11.out.1 h.base))
              refine ⟨Fg.cT rfl (by decide) fun ac w h => ?_, ?_⟩
              · have e64 : _ = (Fe.sqF a).v := h.d 64
                have e65 : _ = b.v := h.d 65
                refine ⟨35, #[(Fe.sqF a).v, b.v], wants_none rfl, Fg.run_call rfl rfl (by simp only [List.map_toArray, List.map_cons, List.map_nil, Act.eval, e64, e65]) (Fg.run_enter Tryz.func35 (by kernel_rfl) (by kernel_rfl)), ?_⟩
                exact (HM.out w).mono fun _ _ ⟨he, hg⟩ => ⟨_, he, hg, rfl⟩
              refine ⟨Fg.aT 27 (feL Fe.zeroF) rfl (by show 11 < 102; decide) rfl fun ac w h => ?_, ?_⟩
              · refine ⟨wants_none rfl, ?_⟩
                clear h
                go_simp
                rfl
              trivial
            · intro ax wx hB hsz hdf hrest hslots hpt
              obtain ⟨N11, e11, n11, b11⟩ : ∃ N, ax.tmps.getD 11 undef = .pointer (some ⟨N, 0, none⟩) ∧ wp.heap.size ≤ N ∧ Blk wx N 27 (feL Fe.zeroF) := hslots 11 (by kernel_rfl)
              obtain ⟨⟨u63, e63⟩, ⟨u64, e64⟩, ⟨u65, e65⟩, _⟩ := Fg.slotvs ax [63, 64, 65]
              have e66 : ax.tmps.getD 66 undef = q.v := hslots 66 (by kernel_rfl)
              obtain rfl := Fg.frame_is (a := ax) (vs := [Value.agg #[Value.int IntKind.u64 a.x0, Value.int IntKind.u64 a.x1, Value.int IntKind.u64 a.x2, Value.int IntKind.u64 a.x3, Value.int IntKind.u64 a.x4], Value.agg #[Value.int IntKind.u64 b.x0, Value.int IntKind.u64 b.x1, Value.int IntKind.u64 b.x2, Value.int IntKind.u64 b.x3, Value.int IntKind.u64 b.x4], Value.pointer (some ⟨w0.heap.size, 0, none⟩), Value.pointer (some ⟨w0.heap.size + 1, 0, none⟩), Value.bool false, Value.pointer (some ⟨N5, 0, none⟩), Value.pointer (some ⟨N6, 0, none⟩), Value.pointer (some ⟨N7, 0, none⟩), Value.bool false, Value.pointer (some ⟨N9, 0, none⟩), Value.bool false, Value.pointer (some ⟨N11, 0, none⟩), Value.agg #[Value.int IntKind.u64 a.x0, Value.int IntKind.u64 a.x1, Value.int IntKind.u64 a.x2, Value.int IntKind.u64 a.x3, Value.int IntKind.u64 a.x4], Value.bool true, Value.bool false, Value.bool false, Value.agg #[Value.int IntKind.u64 b.x0, Value.int IntKind.u64 b.x1, Value.int IntKind.u64 b.x2, Value.int IntKind.u64 b.x3, Value.int IntKind.u64 b.x4], Value.bool true, Value.bool false, Value.bool false, undef, undef, undef, undef, undef, undef, u26, nV (num a.m), u28, nV (num b.m), Value.tuple #[r.v, Value.bool false], a.v, b.v, Value.tuple #[r.v, Value.bool false], r.v, Value.bool false, Value.tuple #[nV s, Value.bool false], nV (num a.m), nV (num b.m), Value.tuple #[nV s, Value.bool false], nV s, Value.bool false, u42, u43, u44, u45, u46, u47, u48, u49, u50, u51, u52, u53, u54, u55, u56, u57, u58, u59, u60, u61, Value.bool false, u63, u64, u65, q.v, undef, undef, undef, undef, undef, undef, undef, undef, undef, undef, undef, undef, undef, undef, undef, undef, undef, undef, undef, undef, undef, undef, undef, undef, undef, undef, undef, undef, undef, undef, undef, undef, undef, undef, undef]) hsz ⟨hrest 0 (by kernel_rfl), hrest 1 (by kernel_rfl), hrest 2 (by kernel_rfl), hrest 3 (by kernel_rfl), hrest 4 (by kernel_rfl), hrest 5 (by kernel_rfl), hrest 6 (by kernel_rfl), hrest 7 (by kernel_rfl), hrest 8 (by kernel_rfl), hrest 9 (by kernel_rfl), hrest 10 (by kernel_rfl), e11, hrest 12 (by kernel_rfl), hrest 13 (by kernel_rfl), hrest 14 (by kernel_rfl), hrest 15 (by kernel_rfl), hrest 16 (by kernel_rfl), hrest 17 (by kernel_rfl), hrest 18 (by kernel_rfl), hrest 19 (by kernel_rfl), hrest 20 (by kernel_rfl), hrest 21 (by kernel_rfl), hrest 22 (by kernel_rfl), hrest 23 (by kernel_rfl), hrest 24 (by kernel_rfl), hrest 25 (by kernel_rfl), hrest 26 (by kernel_rfl), hrest 27 (by kernel_rfl), hrest 28 (by kernel_rfl), hrest 29 (by kernel_rfl), hrest 30 (by kernel_rfl), hrest 31 (by kernel_rfl), hrest 32 (by kernel_rfl), hrest 33 (by kernel_rfl), hrest 34 (by kernel_rfl), hrest 35 (by kernel_rfl), hrest 36 (by kernel_rfl), hrest 37 (by kernel_rfl), hrest 38 (by kernel_rfl), hrest 39 (by kernel_rfl), hrest 40 (by kernel_rfl), hrest 41 (by kernel_rfl), hrest 42 (by kernel_rfl), hrest 43 (by kernel_rfl), hrest 44 (by kernel_rfl), hrest 45 (by kernel_rfl), hrest 46 (by kernel_rfl), hrest 47 (by kernel_rfl), hrest 48 (by kernel_rfl), hrest 49 (by kernel_rfl), hrest 50 (by kernel_rfl), hrest 51 (by kernel_rfl), hrest 52 (by kernel_rfl), hrest 53 (by kernel_rfl), hrest 54 (by kernel_rfl), hrest 55 (by kernel_rfl), hrest 56 (by kernel_rfl), hrest 57 (by kernel_rfl), hrest 58 (by kernel_rfl), hrest 59 (by kernel_rfl), hrest 60 (by kernel_rfl), hrest 61 (by kernel_rfl), hrest 62 (by kernel_rfl), e63, e64, e65, e66, hrest 67 (by kernel_rfl), hrest 68 (by kernel_rfl), hrest 69 (by kernel_rfl), hrest 70 (by kernel_rfl), hrest 71 (by kernel_rfl), hrest 72 (by kernel_rfl), hrest 73 (by kernel_rfl), hrest 74 (by kernel_rfl), hrest 75 (by kernel_rfl), hrest 76 (by kernel_rfl), hrest 77 (by kernel_rfl), hrest 78 (by kernel_rfl), hrest 79 (by kernel_rfl), hrest 80 (by kernel_rfl), hrest 81 (by kernel_rfl), hrest 82 (by kernel_rfl), hrest 83 (by kernel_rfl), hrest 84 (by kernel_rfl), hrest 85 (by kernel_rfl), hrest 86 (by kernel_rfl), hrest 87 (by kernel_rfl), hrest 88 (by kernel_rfl), hrest 89 (by kernel_rfl), hrest 90 (by kernel_rfl), hrest 91 (by kernel_rfl), hrest 92 (by kernel_rfl), hrest 93 (by kernel_rfl), hrest 94 (by kernel_rfl), hrest 95 (by kernel_rfl), hrest 96 (by kernel_rfl), hrest 97 (by kernel_rfl), hrest 98 (by kernel_rfl), hrest 99 (by kernel_rfl), hrest 100 (by kernel_rfl), hrest 101 (by kernel_rfl), trivial⟩ hdf
              clear hsz hdf hrest hslots hpt e11 e63 e64 e65 e66
              dsimp only
              refine Fg.wpl_skip rfl rfl (stE (a := q) rfl rfl rfl b11 rfl) ?_
              refine wpList_nil ?_
              have k11 := storedE (a := q) b11 rfl
              have k5 := (H11.out.2.1.gn hB).setCells_other (cs := feL q) (C := N11) 0 (by omega)
              have k6 := (H11.out.2.2.1.gn hB).setCells_other (cs := feL q) (C := N11) 0 (by omega)
              have k7 := (H11.out.2.2.2.1.gn hB).setCells_other (cs := feL q) (C := N11) 0 (by omega)
              have k9 := (H11.out.2.2.2.2.gn hB).setCells_other (cs := feL q) (C := N11) 0 (by omega)
              have kg := gb_setCells_new (cs := feL q) (gb_trans H11.out.1 hB) (B := N11) (by omega) 0
              have y11 : N7 < N11 ∧ N9 < N11 := ⟨by omega, by omega⟩
              clear b11 hB n11 x5 x6 x7 x9 x2
              revert kg; revert k9; revert k7; revert k6; revert k5; revert k11
              generalize World.setCells _ _ _ _ = w12
              intro k11 k5 k6 k7 k9 kg
              have H12 := Lib.hid (And.intro kg (And.intro k5 (And.intro k6 (And.intro k7 (And.intro k9 k11))))); clear k11 k5 k6 k7 k9 kg H11 H10
              go_upto_region 11 with (fail)
              refine wp_region_lit ?_
              refine Fg.wpl_value (v := q.v) (w' := w12) rfl (ldE rfl rfl (H12.out.2.2.2.2.2)) ?_
              simp only [Act.put, List.setIfInBounds_toArray, List.set_cons_succ, List.set_cons_zero]
              refine Fg.wpl_value (v := b.v) (w' := w12) rfl (ldE rfl rfl (HB.out.2 _ H12.out.1)) ?_
              simp only [Act.put, List.setIfInBounds_toArray, List.set_cons_succ, List.set_cons_zero]
              refine Fg.wpl_call rfl (Fg.run_call (vs := #[q.v, b.v]) rfl rfl (by simp only [List.map_toArray, List.map_cons, List.map_nil, Act.eval] <;> rfl) (Fg.run_enter Tryz.func20 (by kernel_rfl) (by kernel_rfl))) ?_
              refine (H2q.out.fr w12 (HT.out.grown (gb_trans H2.out.1 H12.out.1))).mono ?_
              rintro e w13 ⟨rfl, gw13⟩
              refine ⟨_, rfl, ?_⟩
              simp only [Act.put, List.setIfInBounds_toArray, List.set_cons_succ, List.set_cons_zero]
              refine Fg.wpl_value (v := .tuple #[r2.v, .bool ok2]) (w' := w13) rfl (Fg.run_move rfl rfl) ?_
              simp only [Act.put, List.setIfInBounds_toArray, List.set_cons_succ, List.set_cons_zero]
              refine Fg.wpl_value (v := r2.v) (w' := w13) rfl (by go_simp <;> rfl) ?_
              simp only [Act.put, List.setIfInBounds_toArray, List.set_cons_succ, List.set_cons_zero]
              refine Fg.wpl_value (v := .bool ok2) (w' := w13) rfl (by go_simp <;> rfl) ?_
              simp only [Act.put, List.setIfInBounds_toArray, List.set_cons_succ, List.set_cons_zero]
              have k7 := H12.out.2.2.2.1.gn gw13
              refine Fg.wpl_skip rfl rfl (stE (a := r2) rfl rfl rfl k7 rfl) ?_
              refine Fg.wpl_value (v := .bool ok2) (w' := _) rfl (Fg.run_assign rfl rfl) ?_
              simp only [Act.put, List.setIfInBounds_toArray, List.set_cons_succ, List.set_cons_zero]
              refine wpList_nil ?_
              have m7 := storedE (a := r2) k7 rfl
              have m5 := (H12.out.2.1.gn gw13).setCells_other (cs := feL r2) (C := N7) 0 (by omega)
              have m6 := (H12.out.2.2.1.gn gw13).setCells_other (cs := feL r2) (C := N7) 0 (by omega)
              have m9 := (H12.out.2.2.2.2.1.gn gw13).setCells_other (cs := feL r2) (C := N7) 0 (by omega)
              have m11 := (H12.out.2.2.2.2.2.gn gw13).setCells_other (cs := feL r2) (C := N7) 0 (by omega)
              have mg := gb_setCells_new (cs := feL r2) (gb_trans H12.out.1 gw13) (B := N7) (by omega) 0
              clear k7 gw13
              revert mg; revert m11; revert m9; revert m7; revert m6; revert m5
              generalize World.setCells _ _ _ _ = w14
              intro m5 m6 m7 m9 m11 mg
              have H14 := Lib.hid (And.intro mg (And.intro m5 (And.intro m6 (And.intro m7 (And.intro m9 m11))))); clear m5 m6 m7 m9 m11 mg H12
              go_upto_region 12 with (fail)
              refine wp_region_flowP (fun d u _ => u = gv q b s2 ok2 d) (fun _ => 0) (fun _ _ _ => True) (B12 w2 N5 N6 N7 N9 N11 (num a.m) (num b.m) s s2 r2 q) [] (by kernel_rfl) (by kernel_rfl) (by kernel_rfl) ?_ ?_ (by kernel_rfl) ?_ ?_
              · intro ls hls h0
                have gd : w14.grownBy w14.drew none := gb_drew (gb_refl _ _)
                refine ⟨gb_trans H14.out.1 gd, H14.out.2.1.gn gd, H14.out.2.2.1.gn gd, H14.out.2.2.2.1.gn gd, H14.out.2.2.2.2.2.gn gd, ?_⟩
                rw [if_neg (by rw [h0]; decide)]
                exact H14.out.2.2.2.2.1.gn gd
              · exact Fg.ptrs_undef rfl
              · refine ⟨v12 rfl (by decide) rfl fun ls ac w h => ?_, ?_⟩
                · have e11 : _ = Value.pointer (some ⟨N11, 0, none⟩) := h.r 11
                  exact ldE rfl e11 h.base.2.2.2.2.1
                refine ⟨c12 rfl (by decide) rfl 30 #[q.v] fun ls ac w h => ?_, ?_⟩
                · have e74 : _ = q.v := h.d 74
                  exact ⟨Fg.run_call rfl rfl (by simp only [List.map_toArray, List.map_cons, List.map_nil, Act.eval, e74]) (Fg.run_enter Tryz.func30 (by kernel_rfl) (by kernel_rfl)), c_from q w hqr⟩
                refine ⟨v12 rfl (by decide) rfl fun ls ac w h => ?_, ?_⟩
                · have e6 : _ = Value.pointer (some ⟨N6, 0, none⟩) := h.r 6
                  exact ld rfl e6 h.base.2.2.1 (num_len _) rfl rfl
                refine ⟨c12 rfl (by decide) rfl 45 #[nV (num q.m), nV (num b.m)] fun ls ac w h => ?_, ?_⟩
                · have e75 : _ = nV (num q.m) := h.d 75
                  have e76 : _ = nV (num b.m) := h.d 76
                  exact ⟨Fg.run_call rfl rfl (by simp only [List.map_toArray, List.map_cons, List.map_nil, Act.eval, e75, e76]) (Fg.run_enter Tryz.func45 (by kernel_rfl) (by kernel_rfl)), H2q.out.rr w⟩
                refine ⟨v12 rfl (by decide) rfl fun ls ac w h => ?_, ?_⟩
                · have e77 : _ = Value.tuple #[nV s2, .bool ok2] := h.d 77
                  exact Fg.run_move rfl e77
                refine ⟨v12 rfl (by decide) rfl fun ls ac w h => ?_, ?_⟩
                · have e73 : _ = Value.tuple #[nV s2, .bool ok2] := h.d 73
                  show _ = Result.ok (Next.value (nV s2)) w
                  clear h
                  simp only [execOp, Act.eval, e73]
                  go_simp
                refine ⟨v12 rfl (by decide) rfl fun ls ac w h => ?_, ?_⟩
                · have e73 : _ = Value.tuple #[nV s2, .bool ok2] := h.d 73
                  show _ = Result.ok (Next.value (.bool ok2)) w
                  clear h
                  simp only [execOp, Act.eval, e73]
                  go_simp
                refine ⟨flowP_store rfl fun ls ac w h => ?_, ?_⟩
                · have e9 : _ = Value.pointer (some ⟨N9, 0, none⟩) := h.r 9
                  have e78 : _ = nV s2 := h.d 78
                  have hb := h.base
                  have hl : (pL (if ls.getD 7 false = true then s2 else s)).length = 16 := by
                    rw [pL_len]
                    split
                    · exact H2q.out.len
                    · exact HQ.out.len
                  refine ⟨wants_none rfl, w.setCells N9 0 (pL s2), st rfl e9 e78 hb.2.2.2.2.2 hl H2q.out.len rfl, ⟨gb_setCells_new hb.1 (by omega) 0, hb.2.1.setCells_other 0 (by omega), hb.2.2.1.setCells_other 0 (by omega), hb.2.2.2.1.setCells_other 0 (by omega), hb.2.2.2.2.1.setCells_other 0 (by omega), ?_⟩, fun _ _ h => h, fun _ _ _ _ _ h => h, (gb_setCells (cs := pL s2) (gb_refl w (some N9)) 0).size, trivial⟩
                  rw [if_pos (ls_this (by rw [h.rows]; decide))]
                  exact stored hb.2.2.2.2.2 hl H2q.out.len
                refine ⟨v12 rfl (by decide) rfl fun ls ac w h => ?_, trivial⟩
                · have e79 : _ = Value.bool ok2 := h.d 79
                  exact Fg.run_assign rfl e79
              · intro ls ay w15 hall hB hsz hdf hrest hslots hmems hpt
                have h7 := hall 7 (by decide)
                have hb9 := hB.2.2.2.2.2
                rw [if_pos h7] at hb9
                have H15 := Lib.hid (And.intro hB.1 (And.intro hB.2.1 (And.intro hB.2.2.2.1 hb9))); clear hB hb9 h7 hall hmems
                have e10 : ay.tmps.getD 10 undef = Value.bool ok2 := hslots 10 (by kernel_rfl)
                obtain ⟨⟨u73, e73⟩, ⟨u74, e74⟩, ⟨u75, e75⟩, ⟨u76, e76⟩, ⟨u77, e77⟩, _⟩ := Fg.slotvs ay [73, 74, 75, 76, 77]
                have e78 : ay.tmps.getD 78 undef = nV s2 := hslots 78 (by kernel_rfl)
                have e79 : ay.tmps.getD 79 undef = Value.bool ok2 := hslots 79 (by kernel_rfl)
                obtain rfl := Fg.frame_is (a := ay) (vs := [Value.agg #[Value.int IntKind.u64 a.x0, Value.int IntKind.u64 a.x1, Value.int IntKind.u64 a.x2, Value.int IntKind.u64 a.x3, Value.int IntKind.u64 a.x4], Value.agg #[Value.int IntKind.u64 b.x0, Value.int IntKind.u64 b.x1, Value.int IntKind.u64 b.x2, Value.int IntKind.u64 b.x3, Value.int IntKind.u64 b.x4], Value.pointer (some ⟨w0.heap.size, 0, none⟩), Value.pointer (some ⟨w0.heap.size + 1, 0, none⟩), Value.bool false, Value.pointer (some ⟨N5, 0, none⟩), Value.pointer (some ⟨N6, 0, none⟩), Value.pointer (some ⟨N7, 0, none⟩), Value.bool ok2, Value.pointer (some ⟨N9, 0, none⟩), Value.bool ok2, Value.pointer (some ⟨N11, 0, none⟩), Value.agg #[Value.int IntKind.u64 a.x0, Value.int IntKind.u64 a.x1, Value.int IntKind.u64 a.x2, Value.int IntKind.u64 a.x3, Value.int IntKind.u64 a.x4], Value.bool true, Value.bool false, Value.bool false, Value.agg #[Value.int IntKind.u64 b.x0, Value.int IntKind.u64 b.x1, Value.int IntKind.u64 b.x2, Value.int IntKind.u64 b.x3, Value.int IntKind.u64 b.x4], Value.bool true, Value.bool false, Value.bool false, undef, undef, undef, undef, undef, undef, u26, nV (num a.m), u28, nV (num b.m), Value.tuple #[r.v, Value.bool false], a.v, b.v, Value.tuple #[r.v, Value.bool false], r.v, Value.bool false, Value.tuple #[nV s, Value.bool false], nV (num a.m), nV (num b.m), Value.tuple #[nV s, Value.bool false], nV s, Value.bool false, u42, u43, u44, u45, u46, u47, u48, u49, u50, u51, u52, u53, u54, u55, u56, u57, u58, u59, u60, u61, Value.bool false, u63, u64, u65, q.v, Value.tuple #[r2.v, Value.bool ok2], q.v, b.v, Value.tuple #[r2.v, Value.bool ok2], r2.v, Value.bool ok2, u73, u74, u75, u76, u77, nV s2, Value.bool ok2, undef, undef, undef, undef, undef, undef, undef, undef, undef, undef, undef, undef, undef, undef, undef, undef, undef, undef, undef, undef, undef, undef]) hsz ⟨hrest 0 (by kernel_rfl), hrest 1 (by kernel_rfl), hrest 2 (by kernel_rfl), hrest 3 (by kernel_rfl), hrest 4 (by kernel_rfl), hrest 5 (by kernel_rfl), hrest 6 (by kernel_rfl), hrest 7 (by kernel_rfl), hrest 8 (by kernel_rfl), hrest 9 (by kernel_rfl), e10, hrest 11 (by kernel_rfl), hrest 12 (by kernel_rfl), hrest 13 (by kernel_rfl), hrest 14 (by kernel_rfl), hrest 15 (by kernel_rfl), hrest 16 (by kernel_rfl), hrest 17 (by kernel_rfl), hrest 18 (by kernel_rfl), hrest 19 (by kernel_rfl), hrest 20 (by kernel_rfl), hrest 21 (by kernel_rfl), hrest 22 (by kernel_rfl), hrest 23 (by kernel_rfl), hrest 24 (by kernel_rfl), hrest 25 (by kernel_rfl), hrest 26 (by kernel_rfl), hrest 27 (by kernel_rfl), hrest 28 (by kernel_rfl), hrest 29 (by kernel_rfl), hrest 30 (by kernel_rfl), hrest 31 (by kernel_rfl), hrest 32 (by kernel_rfl), hrest 33 (by kernel_rfl), hrest 34 (by kernel_rfl), hrest 35 (by kernel_rfl), hrest 36 (by kernel_rfl), hrest 37 (by kernel_rfl), hrest 38 (by kernel_rfl), hrest 39 (by kernel_rfl), hrest 40 (by kernel_rfl), hrest 41 (by kernel_rfl), hrest 42 (by kernel_rfl), hrest 43 (by kernel_rfl), hrest 44 (by kernel_rfl), hrest 45 (by kernel_rfl), hrest 46 (by kernel_rfl), hrest 47 (by kernel_rfl), hrest 48 (by kernel_rfl), hrest 49 (by kernel_rfl), hrest 50 (by kernel_rfl), hrest 51 (by kernel_rfl), hrest 52 (by kernel_rfl), hrest 53 (by kernel_rfl), hrest 54 (by kernel_rfl), hrest 55 (by kernel_rfl), hrest 56 (by kernel_rfl), hrest 57 (by kernel_rfl), hrest 58 (by kernel_rfl), hrest 59 (by kernel_rfl), hrest 60 (by kernel_rfl), hrest 61 (by kernel_rfl), hrest 62 (by kernel_rfl), hrest 63 (by kernel_rfl), hrest 64 (by kernel_rfl), hrest 65 (by kernel_rfl), hrest 66 (by kernel_rfl), hrest 67 (by kernel_rfl), hrest 68 (by kernel_rfl), hrest 69 (by kernel_rfl), hrest 70 (by kernel_rfl), hrest 71 (by kernel_rfl), hrest 72 (by kernel_rfl), e73, e74, e75, e76, e77, e78, e79, hrest 80 (by kernel_rfl), hrest 81 (by kernel_rfl), hrest 82 (by kernel_rfl), hrest 83 (by kernel_rfl), hrest 84 (by kernel_rfl), hrest 85 (by kernel_rfl), hrest 86 (by kernel_rfl), hrest 87 (by kernel_rfl), hrest 88 (by kernel_rfl), hrest 89 (by kernel_rfl), hrest 90 (by kernel_rfl), hrest 91 (by kernel_rfl), hrest 92 (by kernel_rfl), hrest 93 (by kernel_rfl), hrest 94 (by kernel_rfl), hrest 95 (by kernel_rfl), hrest 96 (by kernel_rfl), hrest 97 (by kernel_rfl), hrest 98 (by kernel_rfl), hrest 99 (by kernel_rfl), hrest 100 (by kernel_rfl), hrest 101 (by kernel_rfl), trivial⟩ hdf
                clear hsz hdf hrest hslots hpt e10 e73 e74 e75 e76 e77 e78 e79
                dsimp only
                clear H14
                cases ok2 with
                | true =>
                  go_upto_region 13 with (fail)
                  refine Fg.region_t [] [.any, .any, .any, .any, .any, .any, .any, .any, .any, .any, .any, .any, .any, .any, .any, .any, .any, .any, .any, .any, .any, .any, .any, .any, .any, .any, .any, .any, .any, .any, .any, .any, .any, .any, .any, .any, .any, .any, .any, .any, .any, .any, .any, .any, .any, .any, .any, .any, .any, .any, .any, .any, .any, .any, .any, .any, .any, .any, .any, .any, .any, .any, .any, .any, .any, .any, .any, .any, .any, .any, .any, .any, .any, .any, .any, .any, .any, .any, .any, .any, .val (Value.bool true), .val (Value.bool true), .val (Value.bool true), .val (Value.bool true), .val (a.v), .val ((invF a).v), .val (nV (num a.m)), .val (nV (rU (num a.m))), .val (Value.bool true), .val (Value.bool true), .val (Value.bool true), .val (Value.bool true), .val (Value.bool false), .val (Value.bool false), .val (r2.v), .val (nV s2), .val (Value.bool true), .val (Value.bool true), .val (Value.bool true), .val (Value.bool true), .val (Value.bool true), .val (Value.bool true)] w15 22 (gb_refl _ _) (by kernel_rfl) (by kernel_rfl) (by kernel_rfl) (by kernel_rfl) (by decide) (by kernel_rfl) ?_ ?_
                  · refine ⟨Fg.vT rfl (by decide) fun ac w h => ?_, ?_⟩
                    · have e8 : _ = Value.bool true := h.r 8
                      exact ⟨_, w, wants_none rfl, Fg.run_move rfl e8, gb_refl _ _, rfl⟩
                    refine ⟨Fg.vT rfl (by decide) fun ac w h => ?_, ?_⟩
                    · have e10 : _ = Value.bool true := h.r 10
                      exact ⟨_, w, wants_none rfl, Fg.run_move rfl e10, gb_refl _ _, rfl⟩
                    refine ⟨Fg.vT rfl (by decide) fun ac w h => ?_, ?_⟩
                    · have e80 : _ = Value.bool true := h.d 80
                      have e81 : _ = Value.bool true := h.d 81
                      refine ⟨.bool true, w, wants_none rfl, ?_, gb_refl _ _, rfl⟩
                      exact run_eqB rfl e80 e81
                    refine ⟨Fg.vT rfl (by decide) fun ac w h => ?_, ?_⟩
                    · have e82 : _ = Value.bool true := h.d 82
                      exact ⟨_, w, wants_none rfl, Fg.run_move rfl e82, gb_refl _ _, rfl⟩
                    refine ⟨Fg.vT rfl (by decide) fun ac w h => ?_, ?_⟩
                    · have e83 : _ = Value.bool true := h.d 83
                      have e2 : _ = Value.pointer (some ⟨w0.heap.size, 0, none⟩) := h.r 2
                      refine ⟨a.v, w, wants_some (d := 83) rfl rfl (by rw [h.size]; show 83 < 102; decide) e83, ?_, gb_refl _ _, rfl⟩
                      exact ldE rfl e2 (HB.out.1 w (gb_trans H15.out.1 h.base))
                    refine ⟨Fg.cT rfl (by decide) fun ac w h => ?_, ?_⟩
                    · have e83 : _ = Value.bool true := h.d 83
                      have e84 : _ = a.v := h.d 84
                      refine ⟨23, #[a.v], wants_some (d := 83) rfl rfl (by rw [h.size]; show 83 < 102; decide) e83, Fg.run_call rfl rfl (by simp only [List.map_toArray, List.map_cons, List.map_nil, Act.eval, e84]) (Fg.run_enter Tryz.func23 (by kernel_rfl) (by kernel_rfl)), ?_⟩
                      exact (c_inv a w HO.out.1).mono fun _ _ ⟨he, hg⟩ => ⟨_, he, hg, rfl⟩
                    refine ⟨Fg.vT rfl (by decide) fun ac w h => ?_, ?_⟩
                    · have e83 : _ = Value.bool true := h.d 83
                      have e5 : _ = Value.pointer (some ⟨N5, 0, none⟩) := h.r 5
                      refine ⟨nV (num a.m), w, wants_some (d := 83) rfl rfl (by rw [h.size]; show 83 < 102; decide) e83, ?_, gb_refl _ _, rfl⟩
                      exact ld rfl e5 (H15.out.2.1.gn h.base) (num_len _) rfl rfl
                    refine ⟨Fg.cT rfl (by decide) fun ac w h => ?_, ?_⟩
                    · have e83 : _ = Value.bool true := h.d 83
                      have e86 : _ = nV (num a.m) := h.d 86
                      refine ⟨46, #[nV (num a.m)], wants_some (d := 83) rfl rfl (by rw [h.size]; show 83 < 102; decide) e83, Fg.run_call rfl rfl (by simp only [List.map_toArray, List.map_cons, List.map_nil, Act.eval, e86]) (Fg.run_enter Tryz.func46 (by kernel_rfl) (by kernel_rfl)), ?_⟩
                      exact (c_rinv a w).mono fun _ _ ⟨he, hg⟩ => ⟨_, he, hg, rfl⟩
                    refine ⟨Fg.cT rfl (by decide) fun ac w h => ?_, ?_⟩
                    · have e83 : _ = Value.bool true := h.d 83
                      have e85 : _ = (invF a).v := h.d 85
                      have e87 : _ = nV (rU (num a.m)) := h.d 87
                      refine ⟨10, #[(invF a).v, nV (rU (num a.m))], wants_some (d := 83) rfl rfl (by rw [h.size]; show 83 < 102; decide) e83, Fg.run_call rfl rfl (by simp only [List.map_toArray, List.map_cons, List.map_nil, Act.eval, e85, e87]) (Fg.run_enter Tryz.func10 (by kernel_rfl) (by kernel_rfl)), ?_⟩
                      exact (is_inv w hRa).mono fun _ _ ⟨he, hg⟩ => ⟨_, he, hg, rfl⟩
                    refine ⟨Fg.vT rfl (by decide) fun ac w h => ?_, ?_⟩
                    · have e83 : _ = Value.bool true := h.d 83
                      have e88 : _ = Value.bool true := h.d 88
                      refine ⟨Value.bool true, w, wants_none rfl, ?_, gb_refl _ _, rfl⟩
                      clear h
                      simp only [execOp, Act.eval, e83, e88]
                      go_simp
                    refine ⟨Fg.vT rfl (by decide) fun ac w h => ?_, ?_⟩
                    · have e89 : _ = Value.bool true := h.d 89
                      exact ⟨_, w, wants_none rfl, Fg.run_move rfl e89, gb_refl _ _, rfl⟩
                    refine ⟨Fg.vT rfl (by decide) fun ac w h => ?_, ?_⟩
                    · have e90 : _ = Value.bool true := h.d 90
                      have e8 : _ = Value.bool true := h.r 8
                      exact ⟨_, w, wants_some (d := 90) rfl rfl (by rw [h.size]; show 90 < 102; decide) e90, Fg.run_move rfl e8, gb_refl _ _, rfl⟩
                    refine ⟨Fg.vT rfl (by decide) fun ac w h => ?_, ?_⟩
                    · have e90 : _ = Value.bool true := h.d 90
                      have e91 : _ = Value.bool true := h.d 91
                      refine ⟨Value.bool false, w, wants_some (d := 90) rfl rfl (by rw [h.size]; show 90 < 102; decide) e90, ?_, gb_refl _ _, rfl⟩
                      clear h
                      simp only [execOp, Act.eval, e91]
                      go_simp
                    refine ⟨Fg.vT rfl (by decide) fun ac w h => ?_, ?_⟩
                    · have e90 : _ = Value.bool true := h.d 90
                      have e92 : _ = Value.bool false := h.d 92
                      exact ⟨_, w, wants_some (d := 90) rfl rfl (by rw [h.size]; show 90 < 102; decide) e90, Fg.run_move rfl e92, gb_refl _ _, rfl⟩
                    refine ⟨Fg.vT rfl (by decide) fun ac w h => ?_, ?_⟩
                    · have e93 : _ = Value.bool false := h.d 93
                      have e7 : _ = Value.pointer (some ⟨N7, 0, none⟩) := h.r 7
                      refine ⟨r2.v, w, wants_some (d := 93) rfl rfl (by rw [h.size]; show 93 < 102; decide) e93, ?_, gb_refl _ _, rfl⟩
                      exact ldE rfl e7 (H15.out.2.2.1.gn h.base)
                    refine ⟨Fg.vT rfl (by decide) fun ac w h => ?_, ?_⟩
                    · have e93 : _ = Value.bool false := h.d 93
                      have e9 : _ = Value.pointer (some ⟨N9, 0, none⟩) := h.r 9
                      refine ⟨nV s2, w, wants_some (d := 93) rfl rfl (by rw [h.size]; show 93 < 102; decide) e93, ?_, gb_refl _ _, rfl⟩
                      exact ld rfl e9 (H15.out.2.2.2.gn h.base) H2q.out.len rfl rfl
                    refine ⟨Fg.cT rfl (by decide) fun ac w h => ?_, ?_⟩
                    · have e93 : _ = Value.bool false := h.d 93
                      have e94 : _ = r2.v := h.d 94
                      have e95 : _ = nV s2 := h.d 95
                      refine ⟨10, #[r2.v, nV s2], wants_some (d := 93) rfl rfl (by rw [h.size]; show 93 < 102; decide) e93, Fg.run_call rfl rfl (by simp only [List.map_toArray, List.map_cons, List.map_nil, Act.eval, e94, e95]) (Fg.run_enter Tryz.func10 (by kernel_rfl) (by kernel_rfl)), ?_⟩
                      exact (H2q.out.yes rfl w).mono fun _ _ ⟨he, hg⟩ => ⟨_, he, hg, rfl⟩
                    refine ⟨Fg.vT rfl (by decide) fun ac w h => ?_, ?_⟩
                    · have e90 : _ = Value.bool true := h.d 90
                      have e93 : _ = Value.bool false := h.d 93
                      have e96 : _ = Value.bool true := h.d 96
                      refine ⟨Value.bool true, w, wants_some (d := 90) rfl rfl (by rw [h.size]; show 90 < 102; decide) e90, ?_, gb_refl _ _, rfl⟩
                      clear h
                      simp only [execOp, Act.eval, e93, e96]
                      go_simp
                    refine ⟨Fg.vT rfl (by decide) fun ac w h => ?_, ?_⟩
                    · have e90 : _ = Value.bool true := h.d 90
                      have e97 : _ = Value.bool true := h.d 97
                      refine ⟨Value.bool true, w, wants_none rfl, ?_, gb_refl _ _, rfl⟩
                      clear h
                      simp only [execOp, Act.eval, e90, e97]
                      go_simp
                    refine ⟨Fg.vT rfl (by decide) fun ac w h => ?_, ?_⟩
                    · have e98 : _ = Value.bool true := h.d 98
                      exact ⟨_, w, wants_none rfl, Fg.run_move rfl e98, gb_refl _ _, rfl⟩
                    refine ⟨Fg.cT rfl (by decide) fun ac w h => ?_, ?_⟩
                    · have e99 : _ = Value.bool true := h.d 99
                      refine ⟨5, #[], wants_some (d := 99) rfl rfl (by rw [h.size]; show 99 < 102; decide) e99, Fg.run_call rfl rfl (by simp only [List.map_toArray, List.map_nil]) (Fg.run_enter Tryz.func5 (by kernel_rfl) (by kernel_rfl)), ?_⟩
                      exact (awake_any w (HT.out.grown (gb_trans H2.out.1 (gb_trans H15.out.1 h.base)))).mono fun _ _ ⟨he, hg⟩ => ⟨_, he, hg, rfl⟩
                    refine ⟨Fg.vT rfl (by decide) fun ac w h => ?_, ?_⟩
                    · have e99 : _ = Value.bool true := h.d 99
                      have e100 : _ = Value.bool true := h.d 100
                      refine ⟨Value.bool true, w, wants_none rfl, ?_, gb_refl _ _, rfl⟩
                      clear h
                      simp only [execOp, Act.eval, e99, e100]
                      go_simp
                    trivial
                  · intro az wz hB hsz hdf hrest hslots hpt
                    obtain ⟨⟨u80, e80⟩, ⟨u81, e81⟩, ⟨u82, e82⟩, ⟨u83, e83⟩, ⟨u84, e84⟩, ⟨u85, e85⟩, ⟨u86, e86⟩, ⟨u87, e87⟩, ⟨u88, e88⟩, ⟨u89, e89⟩, ⟨u90, e90⟩, ⟨u91, e91⟩, ⟨u92, e92⟩, ⟨u93, e93⟩, ⟨u94, e94⟩, ⟨u95, e95⟩, ⟨u96, e96⟩, ⟨u97, e97⟩, ⟨u98, e98⟩, ⟨u99, e99⟩, ⟨u100, e100⟩, _⟩ := Fg.slotvs az [80, 81, 82, 83, 84, 85, 86, 87, 88, 89, 90, 91, 92, 93, 94, 95, 96, 97, 98, 99, 100]
                    have e101 : az.tmps.getD 101 undef = Value.bool true := hslots 101 (by kernel_rfl)
                    obtain rfl := Fg.frame_is (a := az) (vs := [Value.agg #[Value.int IntKind.u64 a.x0, Value.int IntKind.u64 a.x1, Value.int IntKind.u64 a.x2, Value.int IntKind.u64 a.x3, Value.int IntKind.u64 a.x4], Value.agg #[Value.int IntKind.u64 b.x0, Value.int IntKind.u64 b.x1, Value.int IntKind.u64 b.x2, Value.int IntKind.u64 b.x3, Value.int IntKind.u64 b.x4], Value.pointer (some ⟨w0.heap.size, 0, none⟩), Value.pointer (some ⟨w0.heap.size + 1, 0, none⟩), Value.bool false, Value.pointer (some ⟨N5, 0, none⟩), Value.pointer (some ⟨N6, 0, none⟩), Value.pointer (some ⟨N7, 0, none⟩), Value.bool true, Value.pointer (some ⟨N9, 0, none⟩), Value.bool true, Value.pointer (some ⟨N11, 0, none⟩), Value.agg #[Value.int IntKind.u64 a.x0, Value.int IntKind.u64 a.x1, Value.int IntKind.u64 a.x2, Value.int IntKind.u64 a.x3, Value.int IntKind.u64 a.x4], Value.bool true, Value.bool false, Value.bool false, Value.agg #[Value.int IntKind.u64 b.x0, Value.int IntKind.u64 b.x1, Value.int IntKind.u64 b.x2, Value.int IntKind.u64 b.x3, Value.int IntKind.u64 b.x4], Value.bool true, Value.bool false, Value.bool false, undef, undef, undef, undef, undef, undef, u26, nV (num a.m), u28, nV (num b.m), Value.tuple #[r.v, Value.bool false], a.v, b.v, Value.tuple #[r.v, Value.bool false], r.v, Value.bool false, Value.tuple #[nV s, Value.bool false], nV (num a.m), nV (num b.m), Value.tuple #[nV s, Value.bool false], nV s, Value.bool false, u42, u43, u44, u45, u46, u47, u48, u49, u50, u51, u52, u53, u54, u55, u56, u57, u58, u59, u60, u61, Value.bool false, u63, u64, u65, q.v, Value.tuple #[r2.v, Value.bool true], q.v, b.v, Value.tuple #[r2.v, Value.bool true], r2.v, Value.bool true, u73, u74, u75, u76, u77, nV s2, Value.bool true, u80, u81, u82, u83, u84, u85, u86, u87, u88, u89, u90, u91, u92, u93, u94, u95, u96, u97, u98, u99, u100, Value.bool true]) hsz ⟨hrest 0 (by kernel_rfl), hrest 1 (by kernel_rfl), hrest 2 (by kernel_rfl), hrest 3 (by kernel_rfl), hrest 4 (by kernel_rfl), hrest 5 (by kernel_rfl), hrest 6 (by kernel_rfl), hrest 7 (by kernel_rfl), hrest 8 (by kernel_rfl), hrest 9 (by kernel_rfl), hrest 10 (by kernel_rfl), hrest 11 (by kernel_rfl), hrest 12 (by kernel_rfl), hrest 13 (by kernel_rfl), hrest 14 (by kernel_rfl), hrest 15 (by kernel_rfl), hrest 16 (by kernel_rfl), hrest 17 (by kernel_rfl), hrest 18 (by kernel_rfl), hrest 19 (by kernel_rfl), hrest 20 (by kernel_rfl), hrest 21 (by kernel_rfl), hrest 22 (by kernel_rfl), hrest 23 (by kernel_rfl), hrest 24 (by kernel_rfl), hrest 25 (by kernel_rfl), hrest 26 (by kernel_rfl), hrest 27 (by kernel_rfl), hrest 28 (by kernel_rfl), hrest 29 (by kernel_rfl), hrest 30 (by kernel_rfl), hrest 31 (by kernel_rfl), hrest 32 (by kernel_rfl), hrest 33 (by kernel_rfl), hrest 34 (by kernel_rfl), hrest 35 (by kernel_rfl), hrest 36 (by kernel_rfl), hrest 37 (by kernel_rfl), hrest 38 (by kernel_rfl), hrest 39 (by kernel_rfl), hrest 40 (by kernel_rfl), hrest 41 (by kernel_rfl), hrest 42 (by kernel_rfl), hrest 43 (by kernel_rfl), hrest 44 (by kernel_rfl), hrest 45 (by kernel_rfl), hrest 46 (by kernel_rfl), hrest 47 (by kernel_rfl), hrest 48 (by kernel_rfl), hrest 49 (by kernel_rfl), hrest 50 (by kernel_rfl), hrest 51 (by kernel_rfl), hrest 52 (by kernel_rfl), hrest 53 (by kernel_rfl), hrest 54 (by kernel_rfl), hrest 55 (by kernel_rfl), hrest 56 (by kernel_rfl), hrest 57 (by kernel_rfl), hrest 58 (by kernel_rfl), hrest 59 (by kernel_rfl), hrest 60 (by kernel_rfl), hrest 61 (by kernel_rfl), hrest 62 (by kernel_rfl), hrest 63 (by kernel_rfl), hrest 64 (by kernel_rfl), hrest 65 (by kernel_rfl), hrest 66 (by kernel_rfl), hrest 67 (by kernel_rfl), hrest 68 (by kernel_rfl), hrest 69 (by kernel_rfl), hrest 70 (by kernel_rfl), hrest 71 (by kernel_rfl), hrest 72 (by kernel_rfl), hrest 73 (by kernel_rfl), hrest 74 (by kernel_rfl), hrest 75 (by kernel_rfl), hrest 76 (by kernel_rfl), hrest 77 (by kernel_rfl), hrest 78 (by kernel_rfl), hrest 79 (by kernel_rfl), e80, e81, e82, e83, e84, e85, e86, e87, e88, e89, e90, e91, e92, e93, e94, e95, e96, e97, e98, e99, e100, e101, trivial⟩ hdf
                    clear hsz hdf hrest hslots hpt e80 e81 e82 e83 e84 e85 e86 e87 e88 e89 e90 e91 e92 e93 e94 e95 e96 e97 e98 e99 e100 e101
                    dsimp only
                    refine Fg.wpl_value (v := .bool true) (w' := wz) rfl (Fg.run_assign rfl rfl) ?_
                    simp only [Act.put, List.setIfInBounds_toArray, List.set_cons_succ, List.set_cons_zero]
                    refine wpList_nil ?_
                    have HF := Lib.hid (gb_trans (gb_trans H2.out.1 H15.out.1) hB); clear hB
                    go_wp2
                    go_ret
                    exact ⟨rfl, HF.out⟩
                | false =>
                  go_upto_region 13 with (fail)
                  refine Fg.region_t [] [.any, .any, .any, .any, .any, .any, .any, .any, .any, .any, .any, .any, .any, .any, .any, .any, .any, .any, .any, .any, .any, .any, .any, .any, .any, .any, .any, .any, .any, .any, .any, .any, .any, .any, .any, .any, .any, .any, .any, .any, .any, .any, .any, .any, .any, .any, .any, .any, .any, .any, .any, .any, .any, .any, .any, .any, .any, .any, .any, .any, .any, .any, .any, .any, .any, .any, .any, .any, .any, .any, .any, .any, .any, .any, .any, .any, .any, .any, .any, .any, .val (Value.bool false), .val (Value.bool false), .val (Value.bool true), .val (Value.bool true), .val (a.v), .val ((invF a).v), .val (nV (num a.m)), .val (nV (rU (num a.m))), .val (Value.bool true), .val (Value.bool true), .val (Value.bool true), .val (Value.bool false), .val (Value.bool true), .val (Value.bool true), .val undef, .val undef, .val undef, .val (Value.bool true), .val (Value.bool true), .val (Value.bool true), .val (Value.bool true), .val (Value.bool true)] w15 22 (gb_refl _ _) (by kernel_rfl) (by kernel_rfl) (by kernel_rfl) (by kernel_rfl) (by decide) (by kernel_rfl) ?_ ?_
                  · refine ⟨Fg.vT rfl (by decide) fun ac w h => ?_, ?_⟩
                    · have e8 : _ = Value.bool false := h.r 8
                      exact ⟨_, w, wants_none rfl, Fg.run_move rfl e8, gb_refl _ _, rfl⟩
                    refine ⟨Fg.vT rfl (by decide) fun ac w h => ?_, ?_⟩
                    · have e10 : _ = Value.bool false := h.r 10
                      exact ⟨_, w, wants_none rfl, Fg.run_move rfl e10, gb_refl _ _, rfl⟩
                    refine ⟨Fg.vT rfl (by decide) fun ac w h => ?_, ?_⟩
                    · have e80 : _ = Value.bool false := h.d 80
                      have e81 : _ = Value.bool false := h.d 81
                      refine ⟨.bool true, w, wants_none rfl, ?_, gb_refl _ _, rfl⟩
                      exact run_eqB rfl e80 e81
                    refine ⟨Fg.vT rfl (by decide) fun ac w h => ?_, ?_⟩
                    · have e82 : _ = Value.bool true := h.d 82
                      exact ⟨_, w, wants_none rfl, Fg.run_move rfl e82, gb_refl _ _, rfl⟩
                    refine ⟨Fg.vT rfl (by decide) fun ac w h => ?_, ?_⟩
                    · have e83 : _ = Value.bool true := h.d 83
                      have e2 : _ = Value.pointer (some ⟨w0.heap.size, 0, none⟩) := h.r 2
                      refine ⟨a.v, w, wants_some (d := 83) rfl rfl (by rw [h.size]; show 83 < 102; decide) e83, ?_, gb_refl _ _, rfl⟩
                      exact ldE rfl e2 (HB.out.1 w (gb_trans H15.out.1 h.base))
                    refine ⟨Fg.cT rfl (by decide) fun ac w h => ?_, ?_⟩
                    · have e83 : _ = Value.bool true := h.d 83
                      have e84 : _ = a.v := h.d 84
                      refine ⟨23, #[a.v], wants_some (d := 83) rfl rfl (by rw [h.size]; show 83 < 102; decide) e83, Fg.run_call rfl rfl (by simp only [List.map_toArray, List.map_cons, List.map_nil, Act.eval, e84]) (Fg.run_enter Tryz.func23 (by kernel_rfl) (by kernel_rfl)), ?_⟩
                      exact (c_inv a w HO.out.1).mono fun _ _ ⟨he, hg⟩ => ⟨_, he, hg, rfl⟩
                    refine ⟨Fg.vT rfl (by decide) fun ac w h => ?_, ?_⟩
                    · have e83 : _ = Value.bool true := h.d 83
                      have e5 : _ = Value.pointer (some ⟨N5, 0, none⟩) := h.r 5
                      refine ⟨nV (num a.m), w, wants_some (d := 83) rfl rfl (by rw [h.size]; show 83 < 102; decide) e83, ?_, gb_refl _ _, rfl⟩
                      exact ld rfl e5 (H15.out.2.1.gn h.base) (num_len _) rfl rfl
                    refine ⟨Fg.cT rfl (by decide) fun ac w h => ?_, ?_⟩
                    · have e83 : _ = Value.bool true := h.d 83
                      have e86 : _ = nV (num a.m) := h.d 86
                      refine ⟨46, #[nV (num a.m)], wants_some (d := 83) rfl rfl (by rw [h.size]; show 83 < 102; decide) e83, Fg.run_call rfl rfl (by simp only [List.map_toArray, List.map_cons, List.map_nil, Act.eval, e86]) (Fg.run_enter Tryz.func46 (by kernel_rfl) (by kernel_rfl)), ?_⟩
                      exact (c_rinv a w).mono fun _ _ ⟨he, hg⟩ => ⟨_, he, hg, rfl⟩
                    refine ⟨Fg.cT rfl (by decide) fun ac w h => ?_, ?_⟩
                    · have e83 : _ = Value.bool true := h.d 83
                      have e85 : _ = (invF a).v := h.d 85
                      have e87 : _ = nV (rU (num a.m)) := h.d 87
                      refine ⟨10, #[(invF a).v, nV (rU (num a.m))], wants_some (d := 83) rfl rfl (by rw [h.size]; show 83 < 102; decide) e83, Fg.run_call rfl rfl (by simp only [List.map_toArray, List.map_cons, List.map_nil, Act.eval, e85, e87]) (Fg.run_enter Tryz.func10 (by kernel_rfl) (by kernel_rfl)), ?_⟩
                      exact (is_inv w hRa).mono fun _ _ ⟨he, hg⟩ => ⟨_, he, hg, rfl⟩
                    refine ⟨Fg.vT rfl (by decide) fun ac w h => ?_, ?_⟩
                    · have e83 : _ = Value.bool true := h.d 83
                      have e88 : _ = Value.bool true := h.d 88
                      refine ⟨Value.bool true, w, wants_none rfl, ?_, gb_refl _ _, rfl⟩
                      clear h
                      simp only [execOp, Act.eval, e83, e88]
                      go_simp
                    refine ⟨Fg.vT rfl (by decide) fun ac w h => ?_, ?_⟩
                    · have e89 : _ = Value.bool true := h.d 89
                      exact ⟨_, w, wants_none rfl, Fg.run_move rfl e89, gb_refl _ _, rfl⟩
                    refine ⟨Fg.vT rfl (by decide) fun ac w h => ?_, ?_⟩
                    · have e90 : _ = Value.bool true := h.d 90
                      have e8 : _ = Value.bool false := h.r 8
                      exact ⟨_, w, wants_some (d := 90) rfl rfl (by rw [h.size]; show 90 < 102; decide) e90, Fg.run_move rfl e8, gb_refl _ _, rfl⟩
                    refine ⟨Fg.vT rfl (by decide) fun ac w h => ?_, ?_⟩
                    · have e90 : _ = Value.bool true := h.d 90
                      have e91 : _ = Value.bool false := h.d 91
                      refine ⟨Value.bool true, w, wants_some (d := 90) rfl rfl (by rw [h.size]; show 90 < 102; decide) e90, ?_, gb_refl _ _, rfl⟩
                      clear h
                      simp only [execOp, Act.eval, e91]
                      go_simp
                    refine ⟨Fg.vT rfl (by decide) fun ac w h => ?_, ?_⟩
                    · have e90 : _ = Value.bool true := h.d 90
                      have e92 : _ = Value.bool true := h.d 92
                      exact ⟨_, w, wants_some (d := 90) rfl rfl (by rw [h.size]; show 90 < 102; decide) e90, Fg.run_move rfl e92, gb_refl _ _, rfl⟩
                    refine ⟨Fg.sT rfl (by decide) (fun _ => rfl) fun ac w h => ?_, ?_⟩
                    · have e93 : _ = Value.bool true := h.d 93
                      exact not_wants (d := 93) rfl rfl (by rw [h.size]; show 93 < 102; decide) e93 (by decide)
                    refine ⟨Fg.sT rfl (by decide) (fun _ => rfl) fun ac w h => ?_, ?_⟩
                    · have e93 : _ = Value.bool true := h.d 93
                      exact not_wants (d := 93) rfl rfl (by rw [h.size]; show 93 < 102; decide) e93 (by decide)
                    refine ⟨Fg.sT rfl (by decide) (fun _ => rfl) fun ac w h => ?_, ?_⟩
                    · have e93 : _ = Value.bool true := h.d 93
                      exact not_wants (d := 93) rfl rfl (by rw [h.size]; show 93 < 102; decide) e93 (by decide)
                    refine ⟨Fg.vT rfl (by decide) fun ac w h => ?_, ?_⟩
                    · have e90 : _ = Value.bool true := h.d 90
                      have e93 : _ = Value.bool true := h.d 93
                      refine ⟨Value.bool true, w, wants_some (d := 90) rfl rfl (by rw [h.size]; show 90 < 102; decide) e90, ?_, gb_refl _ _, rfl⟩
                      clear h
                      simp only [execOp, Act.eval, e93]
                      go_simp
                    refine ⟨Fg.vT rfl (by decide) fun ac w h => ?_, ?_⟩
                    · have e90 : _ = Value.bool true := h.d 90
                      have e97 : _ = Value.bool true := h.d 97
                      refine ⟨Value.bool true, w, wants_none rfl, ?_, gb_refl _ _, rfl⟩
                      clear h
                      simp only [execOp, Act.eval, e90, e97]
                      go_simp
                    refine ⟨Fg.vT rfl (by decide) fun ac w h => ?_, ?_⟩
                    · have e98 : _ = Value.bool true := h.d 98
                      exact ⟨_, w, wants_none rfl, Fg.run_move rfl e98, gb_refl _ _, rfl⟩
                    refine ⟨Fg.cT rfl (by decide) fun ac w h => ?_, ?_⟩
                    · have e99 : _ = Value.bool true := h.d 99
                      refine ⟨5, #[], wants_some (d := 99) rfl rfl (by rw [h.size]; show 99 < 102; decide) e99, Fg.run_call rfl rfl (by simp only [List.map_toArray, List.map_nil]) (Fg.run_enter Tryz.func5 (by kernel_rfl) (by kernel_rfl)), ?_⟩
                      exact (awake_any w (HT.out.grown (gb_trans H2.out.1 (gb_trans H15.out.1 h.base)))).mono fun _ _ ⟨he, hg⟩ => ⟨_, he, hg, rfl⟩
                    refine ⟨Fg.vT rfl (by decide) fun ac w h => ?_, ?_⟩
                    · have e99 : _ = Value.bool true := h.d 99
                      have e100 : _ = Value.bool true := h.d 100
                      refine ⟨Value.bool true, w, wants_none rfl, ?_, gb_refl _ _, rfl⟩
                      clear h
                      simp only [execOp, Act.eval, e99, e100]
                      go_simp
                    trivial
                  · intro az wz hB hsz hdf hrest hslots hpt
                    obtain ⟨⟨u80, e80⟩, ⟨u81, e81⟩, ⟨u82, e82⟩, ⟨u83, e83⟩, ⟨u84, e84⟩, ⟨u85, e85⟩, ⟨u86, e86⟩, ⟨u87, e87⟩, ⟨u88, e88⟩, ⟨u89, e89⟩, ⟨u90, e90⟩, ⟨u91, e91⟩, ⟨u92, e92⟩, ⟨u93, e93⟩, ⟨u94, e94⟩, ⟨u95, e95⟩, ⟨u96, e96⟩, ⟨u97, e97⟩, ⟨u98, e98⟩, ⟨u99, e99⟩, ⟨u100, e100⟩, _⟩ := Fg.slotvs az [80, 81, 82, 83, 84, 85, 86, 87, 88, 89, 90, 91, 92, 93, 94, 95, 96, 97, 98, 99, 100]
                    have e101 : az.tmps.getD 101 undef = Value.bool true := hslots 101 (by kernel_rfl)
                    obtain rfl := Fg.frame_is (a := az) (vs := [Value.agg #[Value.int IntKind.u64 a.x0, Value.int IntKind.u64 a.x1, Value.int IntKind.u64 a.x2, Value.int IntKind.u64 a.x3, Value.int IntKind.u64 a.x4], Value.agg #[Value.int IntKind.u64 b.x0, Value.int IntKind.u64 b.x1, Value.int IntKind.u64 b.x2, Value.int IntKind.u64 b.x3, Value.int IntKind.u64 b.x4], Value.pointer (some ⟨w0.heap.size, 0, none⟩), Value.pointer (some ⟨w0.heap.size + 1, 0, none⟩), Value.bool false, Value.pointer (some ⟨N5, 0, none⟩), Value.pointer (some ⟨N6, 0, none⟩), Value.pointer (some ⟨N7, 0, none⟩), Value.bool false, Value.pointer (some ⟨N9, 0, none⟩), Value.bool false, Value.pointer (some ⟨N11, 0, none⟩), Value.agg #[Value.int IntKind.u64 a.x0, Value.int IntKind.u64 a.x1, Value.int IntKind.u64 a.x2, Value.int IntKind.u64 a.x3, Value.int IntKind.u64 a.x4], Value.bool true, Value.bool false, Value.bool false, Value.agg #[Value.int IntKind.u64 b.x0, Value.int IntKind.u64 b.x1, Value.int IntKind.u64 b.x2, Value.int IntKind.u64 b.x3, Value.int IntKind.u64 b.x4], Value.bool true, Value.bool false, Value.bool false, undef, undef, undef, undef, undef, undef, u26, nV (num a.m), u28, nV (num b.m), Value.tuple #[r.v, Value.bool false], a.v, b.v, Value.tuple #[r.v, Value.bool false], r.v, Value.bool false, Value.tuple #[nV s, Value.bool false], nV (num a.m), nV (num b.m), Value.tuple #[nV s, Value.bool false], nV s, Value.bool false, u42, u43, u44, u45, u46, u47, u48, u49, u50, u51, u52, u53, u54, u55, u56, u57, u58, u59, u60, u61, Value.bool false, u63, u64, u65, q.v, Value.tuple #[r2.v, Value.bool false], q.v, b.v, Value.tuple #[r2.v, Value.bool false], r2.v, Value.bool false, u73, u74, u75, u76, u77, nV s2, Value.bool false, u80, u81, u82, u83, u84, u85, u86, u87, u88, u89, u90, u91, u92, u93, u94, u95, u96, u97, u98, u99, u100, Value.bool true]) hsz ⟨hrest 0 (by kernel_rfl), hrest 1 (by kernel_rfl), hrest 2 (by kernel_rfl), hrest 3 (by kernel_rfl), hrest 4 (by kernel_rfl), hrest 5 (by kernel_rfl), hrest 6 (by kernel_rfl), hrest 7 (by kernel_rfl), hrest 8 (by kernel_rfl), hrest 9 (by kernel_rfl), hrest 10 (by kernel_rfl), hrest 11 (by kernel_rfl), hrest 12 (by kernel_rfl), hrest 13 (by kernel_rfl), hrest 14 (by kernel_rfl), hrest 15 (by kernel_rfl), hrest 16 (by kernel_rfl), hrest 17 (by kernel_rfl), hrest 18 (by kernel_rfl), hrest 19 (by kernel_rfl), hrest 20 (by kernel_rfl), hrest 21 (by kernel_rfl), hrest 22 (by kernel_rfl), hrest 23 (by kernel_rfl), hrest 24 (by kernel_rfl), hrest 25 (by kernel_rfl), hrest 26 (by kernel_rfl), hrest 27 (by kernel_rfl), hrest 28 (by kernel_rfl), hrest 29 (by kernel_rfl), hrest 30 (by kernel_rfl), hrest 31 (by kernel_rfl), hrest 32 (by kernel_rfl), hrest 33 (by kernel_rfl), hrest 34 (by kernel_rfl), hrest 35 (by kernel_rfl), hrest 36 (by kernel_rfl), hrest 37 (by kernel_rfl), hrest 38 (by kernel_rfl), hrest 39 (by kernel_rfl), hrest 40 (by kernel_rfl), hrest 41 (by kernel_rfl), hrest 42 (by kernel_rfl), hrest 43 (by kernel_rfl), hrest 44 (by kernel_rfl), hrest 45 (by kernel_rfl), hrest 46 (by kernel_rfl), hrest 47 (by kernel_rfl), hrest 48 (by kernel_rfl), hrest 49 (by kernel_rfl), hrest 50 (by kernel_rfl), hrest 51 (by kernel_rfl), hrest 52 (by kernel_rfl), hrest 53 (by kernel_rfl), hrest 54 (by kernel_rfl), hrest 55 (by kernel_rfl), hrest 56 (by kernel_rfl), hrest 57 (by kernel_rfl), hrest 58 (by kernel_rfl), hrest 59 (by kernel_rfl), hrest 60 (by kernel_rfl), hrest 61 (by kernel_rfl), hrest 62 (by kernel_rfl), hrest 63 (by kernel_rfl), hrest 64 (by kernel_rfl), hrest 65 (by kernel_rfl), hrest 66 (by kernel_rfl), hrest 67 (by kernel_rfl), hrest 68 (by kernel_rfl), hrest 69 (by kernel_rfl), hrest 70 (by kernel_rfl), hrest 71 (by kernel_rfl), hrest 72 (by kernel_rfl), hrest 73 (by kernel_rfl), hrest 74 (by kernel_rfl), hrest 75 (by kernel_rfl), hrest 76 (by kernel_rfl), hrest 77 (by kernel_rfl), hrest 78 (by kernel_rfl), hrest 79 (by kernel_rfl), e80, e81, e82, e83, e84, e85, e86, e87, e88, e89, e90, e91, e92, e93, e94, e95, e96, e97, e98, e99, e100, e101, trivial⟩ hdf
                    clear hsz hdf hrest hslots hpt e80 e81 e82 e83 e84 e85 e86 e87 e88 e89 e90 e91 e92 e93 e94 e95 e96 e97 e98 e99 e100 e101
                    dsimp only
                    refine Fg.wpl_value (v := .bool true) (w' := wz) rfl (Fg.run_assign rfl rfl) ?_
                    simp only [Act.put, List.setIfInBounds_toArray, List.set_cons_succ, List.set_cons_zero]
                    refine wpList_nil ?_
                    have HF := Lib.hid (gb_trans (gb_trans H2.out.1 H15.out.1) hB); clear hB
                    go_wp2
                    go_ret
                    exact ⟨rfl, HF.out⟩
end Nr
end
section
open Go.RowKit Ns Ow
namespace Nr
def pairN (p : List Nat) (i : Nat) : Nat := p.getD (2 * i) 0 + 256 * p.getD (2 * i + 1) 0
def pairL (p : List Nat) (k : Nat) : List Nat := (List.range 16).map fun i => if i < k then pairN p i else 0
theorem pairL_len (p : List Nat) (k : Nat) : (pairL p k).length = 16 := by simp [pairL]
theorem pairL_get (p : List Nat) (k i : Nat) (hi : i < 16) : (pairL p k).getD i 0 = if i < k then pairN p i else 0 := by
 unfold pairL
 rw [List.getD_eq_getElem?_getD, List.getElem?_map, List.getElem?_range hi]
 rfl
theorem pairL_next (p : List Nat) (k : Nat) (hk : k < 16) : (pairL p k).set k (pairN p k) = pairL p (k + 1) := by
 apply List.ext_getElem
 ·rw [List.length_set, pairL_len, pairL_len]
 ·intro i h1 h2
  have hi : i < 16 := by rw [pairL_len] at h2; exact h2
  have e1 := pairL_get p (k + 1) i hi
  have e2 := set_getD (pairL p k) k i (pairN p k) (by rw [pairL_len]; exact hk)
  rw [pairL_get p k i hi] at e2
  rw [List.getD_eq_getElem?_getD, List.getElem?_eq_getElem h2] at e1
  rw [List.getD_eq_getElem?_getD, List.getElem?_eq_getElem h1] at e2
  simp only [Option.getD_some] at e1 e2
  rw [e1, e2]
  by_cases h : i = k
  ·subst h; simp
  ·rw [if_neg h]
   by_cases h3 : i < k
   ·rw [if_pos h3, if_pos (by omega)]
   ·rw [if_neg h3, if_neg (by omega)]
theorem pairN_lt {p : List Nat} (hb : ∀ i, p.getD i 0 < 256) (i : Nat) : pairN p i < 65536 := by
 have h1 := hb (2 * i); have h2 := hb (2 * i + 1)
 unfold pairN; omega
theorem pairL_whole {p : List Nat} (hb : ∀ i, p.getD i 0 < 256) (k : Nat) : Whole (pairL p k) := by
 refine whole_of fun j hj => ?_
 rw [pairL_get p k j (by rw [pairL_len] at hj; exact hj)]
 split
 ·exact pairN_lt hb j
 ·decide
theorem V_pairs (p : List Nat) : ∀ k, ((V ((List.range k).map (pairN p)) : Nat) : Int) = Go.Proofs.YtcmnecnbcohaeaaGreatDoor.wordOf (fun i => ((p.getD i 0 : Nat) : Int)) (2 * k)
 | 0 => rfl
 | k + 1 => by
  rw [List.range_succ, List.map_append, V_append, List.length_map, List.length_range, show 2 * (k + 1) = 2 * k + 1 + 1 by omega, Go.Proofs.YtcmnecnbcohaeaaGreatDoor.wordOf, Go.Proofs.YtcmnecnbcohaeaaGreatDoor.wordOf, ← V_pairs p k]
  have e1 : (2 : Int) ^ (8 * (2 * k)) = 65536 ^ k := by rw [show 8 * (2 * k) = 16 * k by omega, Int.pow_mul]; rfl
  have e2 : (2 : Int) ^ (8 * (2 * k + 1)) = 65536 ^ k * 256 := by rw [show 8 * (2 * k + 1) = 16 * k + 8 by omega, Int.pow_add, Int.pow_mul]; rfl
  rw [e1, e2]
  simp only [List.map_cons, List.map_nil, V, pairN]
  simp only [Int.natCast_add, Int.natCast_mul, Int.natCast_pow]
  grind
theorem pairL_full (p : List Nat) : pairL p 16 = (List.range 16).map (pairN p) := by
 unfold pairL
 apply List.map_congr_left
 intro i hi
 rw [if_pos (List.mem_range.1 hi)]
theorem V_pairL (p : List Nat) : ((V (pairL p 16) : Nat) : Int) = Go.Proofs.YtcmnecnbcohaeaaGreatDoor.wordOf (fun i => ((p.getD i 0 : Nat) : Int)) 32 := by rw [pairL_full]; exact V_pairs p 16
theorem byL_pairs {p : List Nat} (hb : ∀ i, p.getD i 0 < 256) : ∀ k, 2 * k ≤ p.length → byL ((List.range k).map (pairN p)) = p.take (2 * k)
 | 0, _ => rfl
 | k + 1, h => by
  have h1 := hb (2 * k); have h2 := hb (2 * k + 1)
  rw [List.range_succ, List.map_append, byL_append, byL_pairs hb k (by omega), show 2 * (k + 1) = 2 * k + 1 + 1 by omega, List.take_succ_eq_append_getElem (i := 2 * k + 1) (by omega), List.take_succ_eq_append_getElem (i := 2 * k) (by omega), List.append_assoc]
  rw [List.getD_eq_getElem?_getD, List.getElem?_eq_getElem (by omega)] at h1 h2
  simp only [Option.getD_some] at h1 h2
  have g1 : p.getD (2 * k) 0 = p[2 * k] := by rw [List.getD_eq_getElem?_getD, List.getElem?_eq_getElem (by omega)]; rfl
  have g2 : p.getD (2 * k + 1) 0 = p[2 * k + 1] := by rw [List.getD_eq_getElem?_getD, List.getElem?_eq_getElem (by omega)]; rfl
  congr 1
  simp only [List.map_cons, List.map_nil, byL, pairN, g1, g2, List.cons_append, List.nil_append]
  rw [show (p[2 * k] + 256 * p[2 * k + 1]) % 256 = p[2 * k] by omega, show (p[2 * k] + 256 * p[2 * k + 1]) / 256 % 256 = p[2 * k + 1] by omega]
theorem byL_pairL {p : List Nat} (hb : ∀ i, p.getD i 0 < 256) (hl : p.length = 32) : byL (pairL p 16) = p := by
 rw [pairL_full, byL_pairs hb 16 (by omega), List.take_of_length_le (by omega)]
def readV (p : List Nat) : Nat := V (pairL p 16)
def readB (p : List Nat) : Bool := decide (p.length = 32) && decide (readV p < Fe.P)
theorem readV_word (p : List Nat) : ((readV p : Nat) : Int) = Go.Proofs.YtcmnecnbcohaeaaGreatDoor.wordOf (fun i => ((p.getD i 0 : Nat) : Int)) 32 := V_pairL p
theorem read_num {p : List Nat} (hb : ∀ i, p.getD i 0 < 256) (h : readV p < Fe.P) : num (readV p) = pairL p 16 :=
 (num_of _ (pairL_whole hb 16) (pairL_len p 16) (by rw [← P_is]; exact h)).symm
end Nr
end
section
open Go.RowKit Ns Ow
namespace Nr
def readR (p : List Nat) : List Nat × Bool := if readB p = true then (num (readV p), true) else (zeros, false)
set_option maxRecDepth 100000 in
set_option maxHeartbeats 4000000 in
theorem refRead_any (n c B : Nat) (a : Option Addr) (p : List Nat) (w0 : World) (hn : p.length = n) (hP : BytesAt w0 B a c p) : Calls Tryz.prog 8 #[.slice a n c] w0 (Out2 (readR p) w0) := by
 have hlim := hP.lim
 have hfit := hP.fits
 have htop := hP.top
 go_enter Tryz.func8, Tryz.ntmps8
 go_upto_region 2 with (fail)
 show Code.wp _ _ _ _ ((w0.alloc (.cells (pL zeros).toArray 31)).alloc (.cells (pL zeros).toArray 31))
 have bA := (new (w := w0) rfl zeros).alloc (.cells (pL zeros).toArray 31)
 have bB := new (w := w0.alloc (.cells (pL zeros).toArray 31)) (B := w0.heap.size + 1) (by simp) zeros
 have g2 := gb_alloc (gb_alloc (gb_refl w0 none) (.cells (pL zeros).toArray 31)) (.cells (pL zeros).toArray 31)
 revert bA bB g2
 generalize (w0.alloc (.cells (pL zeros).toArray 31)).alloc (.cells (pL zeros).toArray 31) = w2
 intro bA bB g2
 have H2 := Lib.hid (And.intro g2 (And.intro bA bB)); clear g2 bA bB
 have HP := Lib.hid (And.intro hn hP); clear hn hP
 by_cases h32 : n = 32
 ·subst h32
  obtain ⟨pb, po, rfl, hlt, hc⟩ := HP.out.2.cells.resolve_left (by have := HP.out.1; omega)
  have HC := Lib.hid hc; clear hc
  go_wp2_with fail
  go_loopw [5] (fun i wr => ∃ k : Nat, k ≤ 16 ∧ i = .int .i64 k ∧ w0.grownBy wr none ∧ Blk wr w0.heap.size 31 (pL zeros) ∧ Blk wr (w0.heap.size + 1) 31 (pL (pairL p k))) (fun i _ => 16 - (intOf i).toNat)
  case atStart => exact ⟨0, by omega, rfl, H2.out.1, H2.out.2.1, H2.out.2.2⟩
  case round =>
   obtain ⟨k, hk, rfl, hg, hz, hb⟩ := hrel
   by_cases hltk : k < 16
   ·have i0 : (k : Int) < 16 := by omega
    have hg0 := hg
    have e1 : wr.cell? ⟨pb, po + 2 * k, none⟩ = some (.int .u8 ((p.getD (2 * k) 0 : Nat) : Int)) := by
     rw [gb_cell hg (p := ⟨pb, po + 2 * k, none⟩) (Nat.lt_of_lt_of_le hlt hlim) (by simp)]; exact HC.out (2 * k) (by have := HP.out.1; omega)
    have e2 : wr.cell? ⟨pb, po + (2 * k + 1), none⟩ = some (.int .u8 ((p.getD (2 * k + 1) 0 : Nat) : Int)) := by
     rw [gb_cell hg (p := ⟨pb, po + (2 * k + 1), none⟩) (Nat.lt_of_lt_of_le hlt hlim) (by simp)]; exact HC.out (2 * k + 1) (by have := HP.out.1; omega)
    have c0 := cell hb k (by rw [pairL_len]; exact hltk)
    have f0 := hb.free k
    have hs := set (hb.grown (gb_drew (gb_refl wr none)) (by simp)) k (pairN p k)
    rw [pairL_next p k hltk] at hs
    have hz := (hz.grown (gb_drew (gb_refl wr none)) (by simp)).other (a := ⟨w0.heap.size + 1, k, none⟩) (by show w0.heap.size + 1 ≠ w0.heap.size; omega) (.int .u64 ((pairN p k : Nat) : Int))
    have hg0 := gb_set_new (gb_drew hg0) (p := ⟨w0.heap.size + 1, k, none⟩) (by show w0.heap.size ≤ w0.heap.size + 1; omega) (.int .u64 ((pairN p k : Nat) : Int))
    have b1 := HP.out.2.byte (2 * k)
    have b2 := HP.out.2.byte (2 * k + 1)
    unfold pairN at hs hz hg0
    have ev : ((p.getD (2 * k) 0 + 256 * p.getD (2 * k + 1) 0 : Nat) : Int) = ((p.getD (2 * k) 0 : Nat) : Int) + ((p.getD (2 * k + 1) 0 : Nat) : Int) * 256 := by omega
    rw [ev] at hs hz hg0
    clear ev hg
    have HI := Lib.hid (And.intro hg0 (And.intro hz hs)); clear hz hb hs hg0
    generalize p.getD (2 * k) 0 = x at *
    generalize p.getD (2 * k + 1) 0 = y at *
    have q1 : (2 : Int) * (k : Int) < 32 := by omega
    have q2 : (2 : Int) * (k : Int) + 1 < 32 := by omega
    have q3 : ((2 : Int) * (k : Int)).toNat = 2 * k := by omega
    have q4 : ((2 : Int) * (k : Int) + 1).toNat = 2 * k + 1 := by omega
    go_wp2
    go_region
    go_wp2
    go_roundw
    case rel => exact ⟨k + 1, by omega, by go_num, HI.out.1, HI.out.2.1, HI.out.2.2⟩
    case measure => simp [intOf]; omega
   ·obtain rfl : k = 16 := by omega
    have HI := Lib.hid (And.intro hg (And.intro hz hb)); clear hg hz hb
    have cP := fun w => p_any w
    have cL := fun w => less_any (pairL p 16) Pp w (pairL_whole HP.out.2.byte 16) Pp_whole (pairL_len p 16) rfl
    rw [Pp_V, ← P_is] at cL
    go_upto_region 8 with (fail)
    refine Fg.region_t [] [.any, .any, .any, .any, .any, .any, .any, .any, .any, .any, .any, .any, .any, .any, .any, .any, .any, .any, .any, .any, .any, .any, .any, .any, .any, .any, .any, .any, .any, .any, .any, .val (nV (pairL p 16)), .val (nV Pp), .val (Value.bool (decide (V (pairL p 16) < Fe.P))), .val (Value.bool (!decide (V (pairL p 16) < Fe.P)))] wr 4 (gb_refl _ _) (by kernel_rfl) (by kernel_rfl) (by kernel_rfl) (by kernel_rfl) (by decide) (by kernel_rfl) ?_ ?_
    ·refine ⟨Fg.vT rfl (by decide) fun ac w h => ?_, ?_⟩
     ·have e4 : _ = Value.pointer (some ⟨w0.heap.size + 1, 0, none⟩) := h.r 4
      refine ⟨nV (pairL p 16), w, wants_none rfl, ?_, gb_refl _ _, rfl⟩
      exact ld rfl e4 (HI.out.2.2.gn h.base) (pairL_len p 16) rfl rfl
     refine ⟨Fg.cT rfl (by decide) fun ac w h => ?_, ?_⟩
     ·refine ⟨28, #[], wants_none rfl, Fg.run_call rfl rfl (by simp only [List.map_toArray, List.map_nil]) (Fg.run_enter Tryz.func28 (by kernel_rfl) (by kernel_rfl)), ?_⟩
      exact (cP w).mono fun _ _ ⟨he, hg⟩ => ⟨_, he, hg, rfl⟩
     refine ⟨Fg.cT rfl (by decide) fun ac w h => ?_, ?_⟩
     ·have e31 : _ = nV (pairL p 16) := h.d 31
      have e32 : _ = nV Pp := h.d 32
      refine ⟨27, #[nV (pairL p 16), nV Pp], wants_none rfl, Fg.run_call rfl rfl (by simp only [List.map_toArray, List.map_cons, List.map_nil, Act.eval, e31, e32]) (Fg.run_enter Tryz.func27 (by kernel_rfl) (by kernel_rfl)), ?_⟩
      exact (cL w).mono fun _ _ ⟨he, hg⟩ => ⟨_, he, hg, rfl⟩
     refine ⟨Fg.vT rfl (by decide) fun ac w h => ?_, ?_⟩
     ·have e33 : _ = Value.bool (decide (V (pairL p 16) < Fe.P)) := h.d 33
      refine ⟨.bool (!decide (V (pairL p 16) < Fe.P)), w, wants_none rfl, ?_, gb_refl _ _, rfl⟩
      clear h
      simp only [execOp, Act.eval, e33]
      go_simp
     trivial
    ·intro aq wq hB hsz hdf hrest hslots hpt
     obtain ⟨⟨u31, e31⟩, ⟨u32, e32⟩, ⟨u33, e33⟩, _⟩ := Fg.slotvs aq [31, 32, 33]
     have e34 : aq.tmps.getD 34 undef = Value.bool (!decide (V (pairL p 16) < Fe.P)) := hslots 34 (by kernel_rfl)
     obtain rfl := Fg.frame_by [31, 32, 33, 34] (vs := [_, _, _, _, _, _, _, _, _, _, _, _, _, _, _, _, _, _, _, _, _, _, _, _, _, _, _, _, _, _, _, u31, u32, u33, Value.bool (!decide (V (pairL p 16) < Fe.P)), _, _]) hsz hrest (by kernel_rfl) rfl rfl ⟨e31, e32, e33, e34, trivial⟩ hdf
     clear hsz hdf hrest hslots hpt e31 e32 e33 e34
     refine wpList_nil ?_
     have HJ := Lib.hid (And.intro (gb_trans HI.out.1 hB) (And.intro (HI.out.2.1.gn hB) (HI.out.2.2.gn hB))); clear hB
     rcases Nat.lt_or_ge (V (pairL p 16)) Fe.P with hv | hv
     ·have hr : readB p = true := by unfold readB readV; rw [HP.out.1, decide_eq_true hv]; rfl
      rw [decide_eq_true hv]
      have HE : Hid (readR p = (pairL p 16, true)) := Lib.hid (by unfold readR; rw [if_pos hr, read_num HP.out.2.byte hv])
      clear hr hv cL cP
      go_upto_region 10 with (fail)
      refine wp_region_lit ?_
      refine Fg.wpl_value (v := nV (pairL p 16)) (w' := wq) rfl (ld rfl rfl (HJ.out.2.2) (pairL_len p 16) rfl rfl) ?_
      simp only [Act.put, List.setIfInBounds_toArray, List.set_cons_succ, List.set_cons_zero]
      refine Fg.wpl_skip rfl rfl (st (l := pairL p 16) rfl rfl rfl (HJ.out.2.1) rfl (pairL_len p 16) rfl) ?_
      refine Fg.wpl_value (v := .bool true) (w' := _) rfl (by go_simp; rfl) ?_
      simp only [Act.put, List.setIfInBounds_toArray, List.set_cons_succ, List.set_cons_zero]
      refine wpList_nil ?_
      have hR := stored (l := pairL p 16) (HJ.out.2.1) rfl (pairL_len p 16)
      have gR := gb_setCells_new (cs := pL (pairL p 16)) (HJ.out.1) (B := w0.heap.size) (Nat.le_refl _) 0
      revert gR; revert hR
      generalize World.setCells _ _ _ _ = wR
      intro hR gR
      go_wp2_with fail
      exact bodyPost_ret (v := .tuple #[nV (pairL p 16), .bool true]) (res2 Tryz.results8 _ _ (w0.heap.size) (pairL p 16) (.bool true) rfl rfl hR (pairL_len p 16)) rfl ⟨by rw [HE.out], gR⟩
     ·have hr : readB p = false := by unfold readB readV; rw [decide_eq_false (Nat.not_lt.2 hv), Bool.and_false]
      rw [decide_eq_false (Nat.not_lt.2 hv)]
      have HE : Hid (readR p = (zeros, false)) := Lib.hid (by unfold readR; rw [hr]; rfl)
      clear hr hv cL cP
      go_upto_region 9 with (fail)
      refine wp_region_lit ?_
      refine Fg.wpl_value (v := nV zeros) (w' := wq) rfl (by go_simp; rfl) ?_
      simp only [Act.put, List.setIfInBounds_toArray, List.set_cons_succ, List.set_cons_zero]
      refine Fg.wpl_skip rfl rfl (st (l := zeros) rfl rfl rfl (HJ.out.2.1) rfl rfl rfl) ?_
      refine Fg.wpl_value (v := .bool false) (w' := _) rfl (by go_simp; rfl) ?_
      simp only [Act.put, List.setIfInBounds_toArray, List.set_cons_succ, List.set_cons_zero]
      refine wpList_nil ?_
      have hR := stored (l := zeros) (HJ.out.2.1) rfl rfl
      have gR := gb_setCells_new (cs := pL zeros) (HJ.out.1) (B := w0.heap.size) (Nat.le_refl _) 0
      revert gR; revert hR
      generalize World.setCells _ _ _ _ = wR
      intro hR gR
      go_wp2_with fail
      exact bodyPost_ret (v := .tuple #[nV zeros, .bool false]) (res2 Tryz.results8 _ _ (w0.heap.size) zeros (.bool false) rfl rfl hR rfl) rfl ⟨by rw [HE.out], gR⟩
 ·have h2 : ((n : Int) != 32) = true := by simp; omega
  go_upto_region 3 with (fail)
  have hb : readB p = false := by unfold readB; rw [HP.out.1, decide_eq_false h32]; rfl
  have HB := Lib.hid hb; clear hb
  refine wp_region_lit ?_
  refine Fg.wpl_value (v := nV (zeros)) (w' := w2) rfl (ld rfl rfl (H2.out.2.2) (rfl) rfl rfl) ?_
  simp only [Act.put, List.setIfInBounds_toArray, List.set_cons_succ, List.set_cons_zero]
  refine Fg.wpl_skip rfl rfl (st (l := zeros) rfl rfl rfl (H2.out.2.1) rfl (rfl) rfl) ?_
  refine Fg.wpl_value (v := .bool false) (w' := _) rfl (by go_simp; rfl) ?_
  simp only [Act.put, List.setIfInBounds_toArray, List.set_cons_succ, List.set_cons_zero]
  refine wpList_nil ?_
  have hR := stored (l := zeros) (H2.out.2.1) rfl (rfl)
  have gR := gb_setCells_new (cs := pL (zeros)) (H2.out.1) (B := w0.heap.size) (Nat.le_refl _) 0
  revert gR; revert hR
  generalize World.setCells _ _ _ _ = wR
  intro hR gR
  go_wp2_with fail
  exact bodyPost_ret (v := .tuple #[nV (zeros), .bool false]) (res2 Tryz.results8 _ _ (w0.heap.size) (zeros) (.bool false) rfl rfl hR (rfl)) rfl ⟨by unfold readR; rw [HB.out]; rfl, gR⟩
end Nr
end
section
open Go.RowKit Ow
abbrev Tells (f : Nat) (args : Array Value) (w : World) (v : Value) : Prop := Calls Tryz.prog f args w fun e w' => e = .returned v ∧ w.grownBy w' none
theorem results_row_tmp {P : Program} {fn : Func} {p u : Tmp} {ty : TypeId} (h : fn.results = #[.cell p ty, .tmp u]) (tmps : Array Value) (w : World) (g : Nat) (t : TypeId) (cs : Array Value) (fr : Nat × Nat) (d : TypeDesc)
  (hp : tmps.getD p undef = .pointer (some ⟨g, 0, none⟩)) (hg : w.heap[g]? = some (.cells cs t fr))
  (hu : P.underlying ty = some d) (hd : (match d with | .struct _ | .array _ _ => true | _ => false) = true) (hi : (P.info? ty).map (·.size) = some cs.size) {v : Value} (hv : tmps.getD u undef = v) :
  (results fn tmps).run P w = .ok (.tuple #[.agg cs, v]) w := by
 rw [results_cell_tmp h, hp, hv]
 simp [asAddr, run_loadVar_row w g t ty cs fr d hg hu hd hi, Result.andThen]
theorem sl_at (B o c k : Nat) (hk : k ≤ 32) (hc : k < c) (w : World) : (Instr.slice 22 (.slice (some ⟨B, o, none⟩) 32 c) (some (.int .i64 (k : Int))) none none).run Tryz.prog w = .ok (.slice (some ⟨B, o + k, none⟩) (32 - k) (c - k)) w := by
 obtain ⟨a', h1, h2⟩ := slice_from (some ⟨B, o, none⟩) 32 c k hk
 rw [h1 w, h2 hc B o rfl]
set_option maxRecDepth 100000 in
set_option maxHeartbeats 1600000 in
theorem ofBytes_at (B o c : Nat) (F : Nat → Int) (w0 : World) (h32 : 32 ≤ c) (hf : ∀ i, 0 ≤ F i ∧ F i < 256) (hc : ∀ i, i < 32 → w0.cell? ⟨B, o + i, none⟩ = some (.int .u8 (F i))) (hB : B < w0.heap.size) :
  Calls Tryz.prog 25 #[.slice (some ⟨B, o, none⟩) 32 c] w0 (FeOut (fromN (wordOf F 32)) w0) := by
 have HC := Lib.hid hc; clear hc
 have HF := Lib.hid hf; clear hf
 have hXb : ∀ s, 0 ≤ wordOf (fun i => F (s + i)) 8 ∧ wordOf (fun i => F (s + i)) 8 < 18446744073709551616 := fun s => by
  have h := wordOf_bd (fun i => F (s + i)) (fun i => HF.out _) 8
  have h64 : (2 : Int) ^ (8 * 8) = 18446744073709551616 := by decide
  rw [h64] at h
  exact h
 have hN := word4 F
 have h0 : wordOf F 8 = wordOf (fun i => F (0 + i)) 8 := by simp
 rw [h0] at hN
 clear h0
 have g0 : ∀ s n c' W, 8 ≤ n → s + 8 ≤ 32 → (∀ i, i < 32 → W.cell? ⟨B, o + i, none⟩ = some (.int .u8 (F i))) → Tells 51 #[.slice (some ⟨B, o + s, none⟩) n c'] W (.int .u64 (wordOf (fun i => F (s + i)) 8)) :=
  fun s n c' W hn hs h => (getWord_any B (o + s) n c' (fun i => F (s + i)) W hn (fun i => HF.out _) (fun i hi => by rw [Nat.add_assoc]; exact h (s + i) (by omega))).mono fun e w' ⟨h1, h2⟩ => ⟨h1, by subst h2; exact gb_refl _ _⟩
 obtain ⟨X, hX⟩ : ∃ X : Nat → Int, ∀ s, X s = wordOf (fun i => F (s + i)) 8 := ⟨_, fun _ => rfl⟩
 simp only [← hX] at hXb hN g0
 clear hX
 have G := Lib.hid g0; clear g0
 have HN := Lib.hid hN; clear hN
 obtain ⟨p0, q0⟩ := hXb 0
 obtain ⟨p1, q1⟩ := hXb 8
 obtain ⟨p2, q2⟩ := hXb 16
 obtain ⟨p3, q3⟩ := hXb 24
 clear hXb
 have HL := Lib.hid (limbs_of (X 0) (X 8) (X 16) (X 24) p0 p1 p2 q0 q1 q2)
 have S0 : Hid (∀ w, (Instr.slice 22 (.slice (some ⟨B, o, none⟩) 32 c) (some (.int .i64 0)) none none).run Tryz.prog w = .ok (.slice (some ⟨B, o + 0, none⟩) 32 (c - 0)) w) := Lib.hid (sl_at B o c 0 (by decide) (by omega))
 have S8 : Hid (∀ w, (Instr.slice 22 (.slice (some ⟨B, o, none⟩) 32 c) (some (.int .i64 8)) none none).run Tryz.prog w = .ok (.slice (some ⟨B, o + 8, none⟩) 24 (c - 8)) w) := Lib.hid (sl_at B o c 8 (by decide) (by omega))
 have S16 : Hid (∀ w, (Instr.slice 22 (.slice (some ⟨B, o, none⟩) 32 c) (some (.int .i64 16)) none none).run Tryz.prog w = .ok (.slice (some ⟨B, o + 16, none⟩) 16 (c - 16)) w) := Lib.hid (sl_at B o c 16 (by decide) (by omega))
 have S24 : Hid (∀ w, (Instr.slice 22 (.slice (some ⟨B, o, none⟩) 32 c) (some (.int .i64 24)) none none).run Tryz.prog w = .ok (.slice (some ⟨B, o + 24, none⟩) 8 (c - 24)) w) := Lib.hid (sl_at B o c 24 (by decide) (by omega))
 have HH := Lib.hid h32; clear h32
 go_enter Tryz.func25, Tryz.ntmps25
 go_upto_region 1 with (fail)
 have GG : w0.grownBy (w0.alloc (.cells zr5.toArray 27)) none := gb_alloc (gb_refl _ _) _
 have hR : Blk (w0.alloc (.cells zr5.toArray 27)) (w0.heap.size) 27 zr5 := Blk.new w0 zr5 _
 revert GG hR
 generalize w0.alloc (.cells zr5.toArray 27) = W0
 intro GG hR
 have Gs := GG.size
 have HG := Lib.hid GG
 have Gs0 := GG.size
 have l1hR := hR.lt
 refine Fg.rT [] [.any, .any, .any, .val (Value.int .u64 (X 0)), .val (Value.int .u64 (X 8)), .val (Value.int .u64 (X 16)), .val (Value.int .u64 (X 24)), .val (Value.slice (some ⟨B, o, none⟩) 32 c), .val (Value.slice (some ⟨B, o + 0, none⟩) 32 (c - 0)), .val (Value.int .u64 (X 0)), .val (Value.slice (some ⟨B, o, none⟩) 32 c), .val (Value.slice (some ⟨B, o + 8, none⟩) 24 (c - 8)), .val (Value.int .u64 (X 8)), .val (Value.slice (some ⟨B, o, none⟩) 32 c), .val (Value.slice (some ⟨B, o + 16, none⟩) 16 (c - 16)), .val (Value.int .u64 (X 16)), .val (Value.slice (some ⟨B, o, none⟩) 32 c), .val (Value.slice (some ⟨B, o + 24, none⟩) 8 (c - 24)), .val (Value.int .u64 (X 24))] 16 ?_ ?_
 ·refine Fg.vS rfl (by decide) (fun _ _ h => Fg.vn _ (Fg.run_move rfl (h.r 0))) ?_
  refine Fg.vS rfl (by decide) (fun ac w h => ?_) ?_
  ·have e7 : _ = Value.slice (some ⟨B, o, none⟩) 32 c := h.d 7
   refine ⟨wants_none rfl, Value.slice (some ⟨B, o + 0, none⟩) 32 (c - 0), w, ?_, gb_refl _ _, rfl⟩
   clear h
   have hrun := S0.out w
   simp only [execOp, Act.eval, e7, Option.map_some, Option.map_none]
   go_simp
  refine Fg.cS rfl (by decide) (fun ac w h => ?_) ?_
  ·have e8 : _ = Value.slice (some ⟨B, o + 0, none⟩) 32 (c - 0) := h.d 8
   refine ⟨wants_none rfl, 51, #[Value.slice (some ⟨B, o + 0, none⟩) 32 (c - 0)], Fg.run_call rfl rfl (by simp only [List.map_toArray, List.map_cons, List.map_nil, Act.eval, e8]) (Fg.run_enter Tryz.func51 (by kernel_rfl) (by kernel_rfl)), ?_⟩
   exact (G.out 0 32 (c - 0) _ (by decide) (by decide) (fun i hi => by rw [gb_cell (gb_trans HG.out h.base) (p := ⟨B, o + i, none⟩) hB (by simp)]; exact HC.out i hi)).mono fun _ _ ⟨he, hg⟩ => ⟨_, he, hg, rfl⟩
  refine Fg.vS rfl (by decide) (fun _ _ h => Fg.vn _ (Fg.run_move rfl (h.r 0))) ?_
  refine Fg.vS rfl (by decide) (fun ac w h => ?_) ?_
  ·have e10 : _ = Value.slice (some ⟨B, o, none⟩) 32 c := h.d 10
   refine ⟨wants_none rfl, Value.slice (some ⟨B, o + 8, none⟩) 24 (c - 8), w, ?_, gb_refl _ _, rfl⟩
   clear h
   have hrun := S8.out w
   simp only [execOp, Act.eval, e10, Option.map_some, Option.map_none]
   go_simp
  refine Fg.cS rfl (by decide) (fun ac w h => ?_) ?_
  ·have e11 : _ = Value.slice (some ⟨B, o + 8, none⟩) 24 (c - 8) := h.d 11
   refine ⟨wants_none rfl, 51, #[Value.slice (some ⟨B, o + 8, none⟩) 24 (c - 8)], Fg.run_call rfl rfl (by simp only [List.map_toArray, List.map_cons, List.map_nil, Act.eval, e11]) (Fg.run_enter Tryz.func51 (by kernel_rfl) (by kernel_rfl)), ?_⟩
   exact (G.out 8 24 (c - 8) _ (by decide) (by decide) (fun i hi => by rw [gb_cell (gb_trans HG.out h.base) (p := ⟨B, o + i, none⟩) hB (by simp)]; exact HC.out i hi)).mono fun _ _ ⟨he, hg⟩ => ⟨_, he, hg, rfl⟩
  refine Fg.vS rfl (by decide) (fun _ _ h => Fg.vn _ (Fg.run_move rfl (h.r 0))) ?_
  refine Fg.vS rfl (by decide) (fun ac w h => ?_) ?_
  ·have e13 : _ = Value.slice (some ⟨B, o, none⟩) 32 c := h.d 13
   refine ⟨wants_none rfl, Value.slice (some ⟨B, o + 16, none⟩) 16 (c - 16), w, ?_, gb_refl _ _, rfl⟩
   clear h
   have hrun := S16.out w
   simp only [execOp, Act.eval, e13, Option.map_some, Option.map_none]
   go_simp
  refine Fg.cS rfl (by decide) (fun ac w h => ?_) ?_
  ·have e14 : _ = Value.slice (some ⟨B, o + 16, none⟩) 16 (c - 16) := h.d 14
   refine ⟨wants_none rfl, 51, #[Value.slice (some ⟨B, o + 16, none⟩) 16 (c - 16)], Fg.run_call rfl rfl (by simp only [List.map_toArray, List.map_cons, List.map_nil, Act.eval, e14]) (Fg.run_enter Tryz.func51 (by kernel_rfl) (by kernel_rfl)), ?_⟩
   exact (G.out 16 16 (c - 16) _ (by decide) (by decide) (fun i hi => by rw [gb_cell (gb_trans HG.out h.base) (p := ⟨B, o + i, none⟩) hB (by simp)]; exact HC.out i hi)).mono fun _ _ ⟨he, hg⟩ => ⟨_, he, hg, rfl⟩
  refine Fg.vS rfl (by decide) (fun _ _ h => Fg.vn _ (Fg.run_move rfl (h.r 0))) ?_
  refine Fg.vS rfl (by decide) (fun ac w h => ?_) ?_
  ·have e16 : _ = Value.slice (some ⟨B, o, none⟩) 32 c := h.d 16
   refine ⟨wants_none rfl, Value.slice (some ⟨B, o + 24, none⟩) 8 (c - 24), w, ?_, gb_refl _ _, rfl⟩
   clear h
   have hrun := S24.out w
   simp only [execOp, Act.eval, e16, Option.map_some, Option.map_none]
   go_simp
  refine Fg.cS rfl (by decide) (fun ac w h => ?_) ?_
  ·have e17 : _ = Value.slice (some ⟨B, o + 24, none⟩) 8 (c - 24) := h.d 17
   refine ⟨wants_none rfl, 51, #[Value.slice (some ⟨B, o + 24, none⟩) 8 (c - 24)], Fg.run_call rfl rfl (by simp only [List.map_toArray, List.map_cons, List.map_nil, Act.eval, e17]) (Fg.run_enter Tryz.func51 (by kernel_rfl) (by kernel_rfl)), ?_⟩
   exact (G.out 24 8 (c - 24) _ (by decide) (by decide) (fun i hi => by rw [gb_cell (gb_trans HG.out h.base) (p := ⟨B, o + i, none⟩) hB (by simp)]; exact HC.out i hi)).mono fun _ _ ⟨he, hg⟩ => ⟨_, he, hg, rfl⟩
  refine Fg.vS rfl (by decide) (fun _ _ h => Fg.vn _ (Fg.run_assign rfl (h.d 9))) ?_
  refine Fg.vS rfl (by decide) (fun _ _ h => Fg.vn _ (Fg.run_assign rfl (h.d 12))) ?_
  refine Fg.vS rfl (by decide) (fun _ _ h => Fg.vn _ (Fg.run_assign rfl (h.d 15))) ?_
  refine Fg.vS rfl (by decide) (fun _ _ h => Fg.vn _ (Fg.run_assign rfl (h.d 18))) ?_
  trivial
 ·intro qa V1 g1 hsz hdf hrest hslots hpt
  obtain ⟨⟨u7, hs7⟩, ⟨u8, hs8⟩, ⟨u9, hs9⟩, ⟨u10, hs10⟩, ⟨u11, hs11⟩, ⟨u12, hs12⟩, ⟨u13, hs13⟩, ⟨u14, hs14⟩, ⟨u15, hs15⟩, ⟨u16, hs16⟩, ⟨u17, hs17⟩, ⟨u18, hs18⟩, _⟩ := Fg.slotvs qa [7, 8, 9, 10, 11, 12, 13, 14, 15, 16, 17, 18]
  obtain rfl := Fg.frame_by [3, 4, 5, 6, 7, 8, 9, 10, 11, 12, 13, 14, 15, 16, 17, 18] (vs := [_, _, _, Value.int .u64 (X 0), Value.int .u64 (X 8), Value.int .u64 (X 16), Value.int .u64 (X 24), u7, u8, u9, u10, u11, u12, u13, u14, u15, u16, u17, u18, _, _, _, _, _, _, _, _, _, _, _, _, _, _, _, _, _, _, _, _, _, _, _]) hsz hrest (by kernel_rfl) rfl rfl ⟨(show qa.tmps.getD 3 undef = Value.int .u64 (X 0) from hslots 3 (by kernel_rfl)), (show qa.tmps.getD 4 undef = Value.int .u64 (X 8) from hslots 4 (by kernel_rfl)), (show qa.tmps.getD 5 undef = Value.int .u64 (X 16) from hslots 5 (by kernel_rfl)), (show qa.tmps.getD 6 undef = Value.int .u64 (X 24) from hslots 6 (by kernel_rfl)), hs7, hs8, hs9, hs10, hs11, hs12, hs13, hs14, hs15, hs16, hs17, hs18, trivial⟩ hdf
  clear hsz hdf hrest hslots hpt hs7 hs8 hs9 hs10 hs11 hs12 hs13 hs14 hs15 hs16 hs17 hs18
  replace hR := hR.gn g1
  replace GG := gb_trans GG g1
  clear g1
  have z0 := hR.cell (i := 0) rfl
  have z1 := hR.cell (i := 1) rfl
  have z2 := hR.cell (i := 2) rfl
  have z3 := hR.cell (i := 3) rfl
  have z4 := hR.cell (i := 4) rfl
  have y0 := hR.free 0
  have y1 := hR.free 1
  have y2 := hR.free 2
  have y3 := hR.free 3
  have y4 := hR.free 4
  clear hR
  go_wp2
  refine bodyPost_ret (v := (fromN (wordOf F 32)).v) ?_ rfl (feOut_of ⟨rfl, gb_set5 GG (Nat.le_refl _) _ _ _ _ _⟩)
  rw [HN.out, ← HL.out]
  simp [results, Tryz.results25, go_sem, z0, z1, z2, z3, z4, Fe.v]
end
section
open Go.RowKit Go.Shelf Ow
theorem feL_one (a : Fe) : (feL a).all (·.oneCell') = true := rfl
theorem info_elem : (Tryz.prog.info? 27).map (·.size) = some 5 := by kernel_rfl
theorem wordOf_digit (F : Nat → Int) (hf : ∀ i, 0 ≤ F i ∧ F i < 256) (n i : Nat) (hi : i < n) : wordOf F n / 2 ^ (8 * i) % 256 = F i := by
 obtain ⟨k, rfl⟩ : ∃ k, n = i + (1 + k) := ⟨n - i - 1, by omega⟩
 rw [wordOf_shift F i (1 + k), wordOf_shift (fun j => F (i + j)) 1 k]
 obtain ⟨b0, b1⟩ := wordOf_bd F hf i
 have hp : (2 : Int) ^ (8 * i) ≠ 0 := Int.ne_of_gt (Int.pow_pos (by decide))
 rw [Int.add_mul_ediv_right _ _ hp, Int.ediv_eq_zero_of_lt b0 b1, Int.zero_add]
 have e1 : wordOf (fun j => F (i + j)) 1 = F i := by simp [wordOf]
 have e2 : (2 : Int) ^ (8 * 1) = 256 := by decide
 rw [e1, e2, Int.add_mul_emod_self_right]
 have := hf i
 omega
theorem ints_word (F : Nat → Int) (hf : ∀ i, 0 ≤ F i ∧ F i < 256) (i : Nat) (hi : i < 32) : (intsOf (wordOf F 32)).getD i 0 = F i := by
 rw [List.getD_eq_getElem?_getD, intsOf_get _ i hi, Option.getD_some, wordOf_digit F hf 32 i hi]
theorem bytes_at (w : World) (pb po : Nat) (F : Nat → Int) (hf : ∀ i, 0 ≤ F i ∧ F i < 256) (hc : ∀ i, i < 32 → w.cell? ⟨pb, po + i, none⟩ = some (.int .u8 (F i))) : Lib.BytesIn w (some ⟨pb, po, none⟩) 32 (intsOf (wordOf F 32)) :=
 Lib.BytesIn.of_cells fun i hi => by
  have hadd : (⟨pb, po, none⟩ : Addr).add i = ⟨pb, po + i, none⟩ := by unfold Addr.add; split <;> simp_all
  have hi2 : i < 32 := by simpa [intsOf] using hi
  rw [hadd, hc i hi2, ints_word F hf i hi2]
theorem t_equal (A pb po c : Nat) (T : TypeId) (x : Int) (F : Nat → Int) (w : World) (hf : ∀ i, 0 ≤ F i ∧ F i < 256) (h0 : 0 ≤ x) (h1 : x < 2 ^ 256) (hA : Blk w A T (bytesV x)) (hc : ∀ i, i < 32 → w.cell? ⟨pb, po + i, none⟩ = some (.int .u8 (F i))) {b : Bool} (hb : decide (x = wordOf F 32) = b) :
  Tells 26 #[.slice (some ⟨A, 0, none⟩) 32 32, .slice (some ⟨pb, po, none⟩) 32 c] w (.bool b) := by
 have hw := wordOf_bd F hf 32
 have h2 : (2 : Int) ^ (8 * 32) = 2 ^ 256 := by decide
 rw [h2] at hw
 refine (Any.bytes_Equal_all laysnb115 _ _ 32 32 32 c (intsOf x) (intsOf (wordOf F 32)) w (by simp [intsOf]) (by simp [intsOf]) (bytes_in hA) (bytes_at w pb po F hf hc)).mono ?_
 rintro e w' ⟨rfl, rfl⟩
 exact ⟨by rw [bytesOf_same x _ h0 hw.1 h1 hw.2, hb], gb_refl _ _⟩
set_option maxRecDepth 100000 in
set_option maxHeartbeats 3200000 in
theorem fget_yes (pb po c : Nat) (F : Nat → Int) (w0 : World) (h32 : 32 ≤ c) (hf : ∀ i, 0 ≤ F i ∧ F i < 256) (hc : ∀ i, i < 32 → w0.cell? ⟨pb, po + i, none⟩ = some (.int .u8 (F i))) (hB : pb < w0.heap.size) (hlt : wordOf F 32 < 57896044618658097711785492504343953926634992332820282019728792003956564819949) :
  Calls Tryz.prog 7 #[.slice (some ⟨pb, po, none⟩) 32 c] w0 fun e w' => e = .returned (.tuple #[(fromN (wordOf F 32)).v, .bool true]) ∧ w0.grownBy w' none := by
 have HC := Lib.hid hc; clear hc
 have HF := Lib.hid hf; clear hf
 have hw := wordOf_bd F HF.out 32
 have h2 : (2 : Int) ^ (8 * 32) = 2 ^ 256 := by decide
 rw [h2] at hw
 have okN : (fromN (wordOf F 32)).Ok := (fromN_right hw.1 hw.2).ok
 have hD : decide ((Fe.m (fromN (wordOf F 32)) : Int) = wordOf F 32) = true := by
  rw [fromN_m, decide_eq_true_iff]
  have := hw.1
  omega
 have HD := Lib.hid hD; clear hD hw h2 hlt
 go_enter Tryz.func7, Tryz.ntmps7
 go_upto_region 1 with (fail)
 have G : w0.grownBy (w0.alloc (.cells zr5.toArray 27)) none := gb_alloc (gb_refl _ _) _
 have hR : Blk (w0.alloc (.cells zr5.toArray 27)) (w0.heap.size) 27 zr5 := Blk.new w0 zr5 _
 revert G hR
 generalize w0.alloc (.cells zr5.toArray 27) = W0
 intro G hR
 have Gs := G.size
 have HCW : Hid (∀ i, i < 32 → W0.cell? ⟨pb, po + i, none⟩ = some (.int .u8 (F i))) := Lib.hid (fun i hi => by rw [gb_cell G (p := ⟨pb, po + i, none⟩) hB (by simp)]; exact HC.out i hi)
 have G0x := G
 go_upto_region 3 with (fail)
 have Gs0 := G.size
 have l1hR := hR.lt
 refine Fg.rP [4] [.any, .any, .any, .any, .fresh 27 zr5 W0.heap.size, .any, .any, .any, .any, .val (Value.slice (some ⟨pb, po, none⟩) 32 c), .val ((fromN (wordOf F 32)).v)] 3 ?_ ?_
 ·refine Fg.vS rfl (by decide) (fun _ _ h => Fg.vn _ (Fg.run_move rfl (h.r 0))) ?_
  refine Fg.cS rfl (by decide) (fun ac w h => ?_) ?_
  ·have e9 : _ = Value.slice (some ⟨pb, po, none⟩) 32 c := h.d 9
   refine ⟨wants_none rfl, 25, #[Value.slice (some ⟨pb, po, none⟩) 32 c], Fg.run_call rfl rfl (by simp only [List.map_toArray, List.map_cons, List.map_nil, Act.eval, e9]) (Fg.run_enter Tryz.func25 (by kernel_rfl) (by kernel_rfl)), ?_⟩
   exact ((ofBytes_at pb po c F _ h32 HF.out (fun i hi => by rw [gb_cell (gb_trans G0x h.base) (p := ⟨pb, po + i, none⟩) hB (by simp)]; exact HC.out i hi) (Nat.lt_of_lt_of_le hB (gb_trans G0x h.base).size)).mono fun _ _ h => feOut_is h).mono fun _ _ ⟨he, hg⟩ => ⟨_, he, hg, rfl⟩
  refine ⟨⟨⟨_, rfl⟩, Fg.allocP (fun _ _ h k => gb_trans h k) rfl (by show 4 < 18; decide) fun ac w h => ?_⟩, ?_⟩
  ·refine ⟨wants_none rfl, w.alloc (.cells zr5.toArray 27), ?_, World.grownBy_alloc _ _ _, by simp, ⟨w.heap.size, rfl, h.base.size, Blk.new w zr5 _⟩⟩
   clear h
   go_simp
  trivial
 ·intro qa V1 g1 hsz hdf hrest hslots hpt
  obtain ⟨N4, hs4, hn4, hb4⟩ : ∃ N, qa.tmps.getD 4 undef = .pointer (some ⟨N, 0, none⟩) ∧ W0.heap.size ≤ N ∧ Blk V1 N 27 zr5 := hslots 4 (by kernel_rfl)
  obtain ⟨u9, hs9⟩ := Fg.slotv qa 9
  obtain ⟨x1, hx1⟩ : ∃ x : Fe, x = fromN (wordOf F 32) := ⟨_, rfl⟩
  obtain rfl := Fg.frame_by [4, 9, 10] (vs := [_, _, _, _, Value.pointer (some ⟨N4, 0, none⟩), _, _, _, _, u9, x1.v, _, _, _, _, _, _, _]) hsz hrest (by kernel_rfl) rfl rfl ⟨hs4, hs9, (show qa.tmps.getD 10 undef = x1.v by rw [hx1]; exact hslots 10 (by kernel_rfl)), trivial⟩ hdf
  clear hsz hdf hrest hslots hpt hs4 hs9
  have Hx1 := Lib.hid hx1; clear hx1
  replace hR := hR.gn g1
  replace G := gb_trans G g1
  have okx1 : x1.Ok := by rw [Hx1.out]; exact okN
  have hw4 : w0.heap.size ≤ N4 := Nat.le_trans Gs0 hn4
  clear g1
  refine Fg.wpl_skip rfl rfl (Fg.run_store (cs := feL x1) rfl rfl rfl (hb4.there 0 5 (by show 0 + 5 ≤ 5; decide)) info_elem (feL_one _)) ?_
  replace hR := hR.setCells_other (C := N4) (cs := feL x1) 0 (by omega)
  replace hb4 : Blk (V1.setCells N4 0 (feL x1)) N4 27 (feL x1) := hb4.setAll rfl
  replace G := gb_setCells_new (cs := feL x1) G (B := N4) (hw4) 0
  revert hR hb4 G
  generalize V1.setCells N4 0 (feL x1) = W2
  intro hR hb4 G
  have G1x := G
  go_upto_region 4 with (fail)
  have Gs2 := G.size
  have l2hR := hR.lt
  have l2hb4 := hb4.lt
  refine Fg.rP [] [.any, .any, .any, .any, .any, .any, .any, .any, .any, .any, .any, .val (x1.v), .row 57 (bytesV (Fe.m (x1))) 32 W2.heap.size, .val (Value.slice (some ⟨pb, po, none⟩) 32 c), .val (Value.bool true), .val (Value.bool false)] 5 ?_ ?_
  ·refine Fg.vS rfl (by decide) (fun _ _ h => Fg.vn x1.v (Fg.run_load rfl (h.r 4) ((hb4.gn h.base).range 0 (feL x1) rfl) Tryz.underlying27 rfl info_elem)) ?_
   refine Fg.cS rfl (by decide) (fun ac w h => ?_) ?_
   ·have e11 : _ = x1.v := h.d 11
    refine ⟨wants_none rfl, 12, #[x1.v], Fg.run_call rfl rfl (by simp only [List.map_toArray, List.map_cons, List.map_nil, Act.eval, e11]) (Fg.run_enter Tryz.func12 (by kernel_rfl) (by kernel_rfl)), ?_⟩
    exact (put_any _ _ okx1).mono fun _ _ ⟨NB, he, hg, hn, hb⟩ => ⟨_, he, hg, ⟨NB, rfl, Nat.le_trans h.base.size hn, hb⟩⟩
   refine Fg.vS rfl (by decide) (fun _ _ h => Fg.vn _ (Fg.run_move rfl (h.r 0))) ?_
   refine Fg.cS rfl (by decide) (fun ac w h => ?_) ?_
   ·obtain ⟨B12, e12, hn12, b12⟩ : ∃ N, ac.tmps.getD 12 undef = .slice (some ⟨N, 0, none⟩) 32 32 ∧ W2.heap.size ≤ N ∧ Blk w N 57 (bytesV (Fe.m (x1))) := h.dep 12 (by kernel_rfl)
    have e13 : _ = Value.slice (some ⟨pb, po, none⟩) 32 c := h.d 13
    refine ⟨wants_none rfl, 26, #[Value.slice (some ⟨B12, 0, none⟩) 32 32, Value.slice (some ⟨pb, po, none⟩) 32 c], Fg.run_call rfl rfl (by simp only [List.map_toArray, List.map_cons, List.map_nil, Act.eval, e12, e13]) (Fg.run_enter Tryz.func26 (by kernel_rfl) (by kernel_rfl)), ?_⟩
    exact (t_equal _ pb po c _ _ F _ HF.out (Int.natCast_nonneg _) (m_256 _) b12 (fun i hi => by rw [gb_cell (gb_trans G1x h.base) (p := ⟨pb, po + i, none⟩) hB (by simp)]; exact HC.out i hi) (by rw [Hx1.out]; exact HD.out)).mono fun _ _ ⟨he, hg⟩ => ⟨_, he, hg, rfl⟩
   refine Fg.vS rfl (by decide) (fun ac w h => ?_) ?_
   ·have e14 : _ = Value.bool true := h.d 14
    refine ⟨wants_none rfl, Value.bool false, w, ?_, gb_refl _ _, rfl⟩
    clear h
    simp only [execOp, Act.eval, e14]
    go_simp
   trivial
  ·intro qa V3 g3 hsz hdf hrest hslots hpt
   obtain ⟨⟨u11, hs11⟩, ⟨u12, hs12⟩, ⟨u13, hs13⟩, ⟨u14, hs14⟩, _⟩ := Fg.slotvs qa [11, 12, 13, 14]
   obtain rfl := Fg.frame_by [11, 12, 13, 14, 15] (vs := [_, _, _, _, _, _, _, _, _, _, _, u11, u12, u13, u14, Value.bool false, _, _]) hsz hrest (by kernel_rfl) rfl rfl ⟨hs11, hs12, hs13, hs14, (show qa.tmps.getD 15 undef = Value.bool false from hslots 15 (by kernel_rfl)), trivial⟩ hdf
   clear hsz hdf hrest hslots hpt hs11 hs12 hs13 hs14
   replace hR := hR.gn g3
   replace hb4 := hb4.gn g3
   replace G := gb_trans G g3
   clear g3
   go_upto_region 6 with (fail)
   have Gs3 := G.size
   have l3hR := hR.lt
   have l3hb4 := hb4.lt
   refine Fg.rP [] [.any, .any, .any, .any, .any, .any, .any, .any, .any, .any, .any, .any, .any, .any, .any, .any, .any, .val (x1.v)] 1 ?_ ?_
   ·refine Fg.vS rfl (by decide) (fun _ _ h => Fg.vn x1.v (Fg.run_load rfl (h.r 4) ((hb4.gn h.base).range 0 (feL x1) rfl) Tryz.underlying27 rfl info_elem)) ?_
    trivial
   ·intro qa V4 g4 hsz hdf hrest hslots hpt
    obtain rfl := Fg.frame_by [17] (vs := [_, _, _, _, _, _, _, _, _, _, _, _, _, _, _, _, _, x1.v]) hsz hrest (by kernel_rfl) rfl rfl ⟨(show qa.tmps.getD 17 undef = x1.v from hslots 17 (by kernel_rfl)), trivial⟩ hdf
    clear hsz hdf hrest hslots hpt
    replace hR := hR.gn g4
    replace hb4 := hb4.gn g4
    replace G := gb_trans G g4
    clear g4
    refine Fg.wpl_skip rfl rfl (Fg.run_store (cs := feL x1) rfl rfl rfl (hR.there 0 5 (by show 0 + 5 ≤ 5; decide)) info_elem (feL_one _)) ?_
    replace hR : Blk (V4.setCells w0.heap.size 0 (feL x1)) w0.heap.size 27 (feL x1) := hR.setAll rfl
    replace hb4 := hb4.setCells_other (C := w0.heap.size) (cs := feL x1) 0 (by omega)
    replace G := gb_setCells_new (cs := feL x1) G (B := w0.heap.size) (by omega) 0
    revert hR hb4 G
    generalize V4.setCells w0.heap.size 0 (feL x1) = W5
    intro hR hb4 G
    go_wp2_with fail
    have hx1 := Hx1.out; subst hx1
    exact bodyPost_ret (v := .tuple #[(fromN (wordOf F 32)).v, .bool true]) (results_row_tmp Tryz.results7 _ _ w0.heap.size 27 (feL (fromN (wordOf F 32))).toArray (0, 0) _ rfl hR Tryz.underlying27 rfl info_elem rfl) rfl ⟨rfl, G⟩
set_option maxRecDepth 100000 in
set_option maxHeartbeats 3200000 in
theorem fget_no (pb po c : Nat) (F : Nat → Int) (w0 : World) (h32 : 32 ≤ c) (hf : ∀ i, 0 ≤ F i ∧ F i < 256) (hc : ∀ i, i < 32 → w0.cell? ⟨pb, po + i, none⟩ = some (.int .u8 (F i))) (hB : pb < w0.heap.size) (hlt : 57896044618658097711785492504343953926634992332820282019728792003956564819949 ≤ wordOf F 32) :
  Calls Tryz.prog 7 #[.slice (some ⟨pb, po, none⟩) 32 c] w0 fun e w' => e = .returned (.tuple #[(Fe.zeroF).v, .bool false]) ∧ w0.grownBy w' none := by
 have HC := Lib.hid hc; clear hc
 have HF := Lib.hid hf; clear hf
 have hw := wordOf_bd F HF.out 32
 have h2 : (2 : Int) ^ (8 * 32) = 2 ^ 256 := by decide
 rw [h2] at hw
 have okN : (fromN (wordOf F 32)).Ok := (fromN_right hw.1 hw.2).ok
 have hD : decide ((Fe.m (fromN (wordOf F 32)) : Int) = wordOf F 32) = false := by
  rw [fromN_m, decide_eq_false_iff_not]
  have := hw.1
  omega
 have HD := Lib.hid hD; clear hD hw h2 hlt
 go_enter Tryz.func7, Tryz.ntmps7
 go_upto_region 1 with (fail)
 have G : w0.grownBy (w0.alloc (.cells zr5.toArray 27)) none := gb_alloc (gb_refl _ _) _
 have hR : Blk (w0.alloc (.cells zr5.toArray 27)) (w0.heap.size) 27 zr5 := Blk.new w0 zr5 _
 revert G hR
 generalize w0.alloc (.cells zr5.toArray 27) = W0
 intro G hR
 have Gs := G.size
 have HCW : Hid (∀ i, i < 32 → W0.cell? ⟨pb, po + i, none⟩ = some (.int .u8 (F i))) := Lib.hid (fun i hi => by rw [gb_cell G (p := ⟨pb, po + i, none⟩) hB (by simp)]; exact HC.out i hi)
 have G0x := G
 go_upto_region 3 with (fail)
 have Gs0 := G.size
 have l1hR := hR.lt
 refine Fg.rP [4] [.any, .any, .any, .any, .fresh 27 zr5 W0.heap.size, .any, .any, .any, .any, .val (Value.slice (some ⟨pb, po, none⟩) 32 c), .val ((fromN (wordOf F 32)).v)] 3 ?_ ?_
 ·refine Fg.vS rfl (by decide) (fun _ _ h => Fg.vn _ (Fg.run_move rfl (h.r 0))) ?_
  refine Fg.cS rfl (by decide) (fun ac w h => ?_) ?_
  ·have e9 : _ = Value.slice (some ⟨pb, po, none⟩) 32 c := h.d 9
   refine ⟨wants_none rfl, 25, #[Value.slice (some ⟨pb, po, none⟩) 32 c], Fg.run_call rfl rfl (by simp only [List.map_toArray, List.map_cons, List.map_nil, Act.eval, e9]) (Fg.run_enter Tryz.func25 (by kernel_rfl) (by kernel_rfl)), ?_⟩
   exact ((ofBytes_at pb po c F _ h32 HF.out (fun i hi => by rw [gb_cell (gb_trans G0x h.base) (p := ⟨pb, po + i, none⟩) hB (by simp)]; exact HC.out i hi) (Nat.lt_of_lt_of_le hB (gb_trans G0x h.base).size)).mono fun _ _ h => feOut_is h).mono fun _ _ ⟨he, hg⟩ => ⟨_, he, hg, rfl⟩
  refine ⟨⟨⟨_, rfl⟩, Fg.allocP (fun _ _ h k => gb_trans h k) rfl (by show 4 < 18; decide) fun ac w h => ?_⟩, ?_⟩
  ·refine ⟨wants_none rfl, w.alloc (.cells zr5.toArray 27), ?_, World.grownBy_alloc _ _ _, by simp, ⟨w.heap.size, rfl, h.base.size, Blk.new w zr5 _⟩⟩
   clear h
   go_simp
  trivial
 ·intro qa V1 g1 hsz hdf hrest hslots hpt
  obtain ⟨N4, hs4, hn4, hb4⟩ : ∃ N, qa.tmps.getD 4 undef = .pointer (some ⟨N, 0, none⟩) ∧ W0.heap.size ≤ N ∧ Blk V1 N 27 zr5 := hslots 4 (by kernel_rfl)
  obtain ⟨u9, hs9⟩ := Fg.slotv qa 9
  obtain ⟨x1, hx1⟩ : ∃ x : Fe, x = fromN (wordOf F 32) := ⟨_, rfl⟩
  obtain rfl := Fg.frame_by [4, 9, 10] (vs := [_, _, _, _, Value.pointer (some ⟨N4, 0, none⟩), _, _, _, _, u9, x1.v, _, _, _, _, _, _, _]) hsz hrest (by kernel_rfl) rfl rfl ⟨hs4, hs9, (show qa.tmps.getD 10 undef = x1.v by rw [hx1]; exact hslots 10 (by kernel_rfl)), trivial⟩ hdf
  clear hsz hdf hrest hslots hpt hs4 hs9
  have Hx1 := Lib.hid hx1; clear hx1
  replace hR := hR.gn g1
  replace G := gb_trans G g1
  have okx1 : x1.Ok := by rw [Hx1.out]; exact okN
  have hw4 : w0.heap.size ≤ N4 := Nat.le_trans Gs0 hn4
  clear g1
  refine Fg.wpl_skip rfl rfl (Fg.run_store (cs := feL x1) rfl rfl rfl (hb4.there 0 5 (by show 0 + 5 ≤ 5; decide)) info_elem (feL_one _)) ?_
  replace hR := hR.setCells_other (C := N4) (cs := feL x1) 0 (by omega)
  replace hb4 : Blk (V1.setCells N4 0 (feL x1)) N4 27 (feL x1) := hb4.setAll rfl
  replace G := gb_setCells_new (cs := feL x1) G (B := N4) (hw4) 0
  revert hR hb4 G
  generalize V1.setCells N4 0 (feL x1) = W2
  intro hR hb4 G
  have G1x := G
  go_upto_region 4 with (fail)
  have Gs2 := G.size
  have l2hR := hR.lt
  have l2hb4 := hb4.lt
  refine Fg.rP [] [.any, .any, .any, .any, .any, .any, .any, .any, .any, .any, .any, .val (x1.v), .row 57 (bytesV (Fe.m (x1))) 32 W2.heap.size, .val (Value.slice (some ⟨pb, po, none⟩) 32 c), .val (Value.bool false), .val (Value.bool true)] 5 ?_ ?_
  ·refine Fg.vS rfl (by decide) (fun _ _ h => Fg.vn x1.v (Fg.run_load rfl (h.r 4) ((hb4.gn h.base).range 0 (feL x1) rfl) Tryz.underlying27 rfl info_elem)) ?_
   refine Fg.cS rfl (by decide) (fun ac w h => ?_) ?_
   ·have e11 : _ = x1.v := h.d 11
    refine ⟨wants_none rfl, 12, #[x1.v], Fg.run_call rfl rfl (by simp only [List.map_toArray, List.map_cons, List.map_nil, Act.eval, e11]) (Fg.run_enter Tryz.func12 (by kernel_rfl) (by kernel_rfl)), ?_⟩
    exact (put_any _ _ okx1).mono fun _ _ ⟨NB, he, hg, hn, hb⟩ => ⟨_, he, hg, ⟨NB, rfl, Nat.le_trans h.base.size hn, hb⟩⟩
   refine Fg.vS rfl (by decide) (fun _ _ h => Fg.vn _ (Fg.run_move rfl (h.r 0))) ?_
   refine Fg.cS rfl (by decide) (fun ac w h => ?_) ?_
   ·obtain ⟨B12, e12, hn12, b12⟩ : ∃ N, ac.tmps.getD 12 undef = .slice (some ⟨N, 0, none⟩) 32 32 ∧ W2.heap.size ≤ N ∧ Blk w N 57 (bytesV (Fe.m (x1))) := h.dep 12 (by kernel_rfl)
    have e13 : _ = Value.slice (some ⟨pb, po, none⟩) 32 c := h.d 13
    refine ⟨wants_none rfl, 26, #[Value.slice (some ⟨B12, 0, none⟩) 32 32, Value.slice (some ⟨pb, po, none⟩) 32 c], Fg.run_call rfl rfl (by simp only [List.map_toArray, List.map_cons, List.map_nil, Act.eval, e12, e13]) (Fg.run_enter Tryz.func26 (by kernel_rfl) (by kernel_rfl)), ?_⟩
    exact (t_equal _ pb po c _ _ F _ HF.out (Int.natCast_nonneg _) (m_256 _) b12 (fun i hi => by rw [gb_cell (gb_trans G1x h.base) (p := ⟨pb, po + i, none⟩) hB (by simp)]; exact HC.out i hi) (by rw [Hx1.out]; exact HD.out)).mono fun _ _ ⟨he, hg⟩ => ⟨_, he, hg, rfl⟩
   refine Fg.vS rfl (by decide) (fun ac w h => ?_) ?_
   ·have e14 : _ = Value.bool false := h.d 14
    refine ⟨wants_none rfl, Value.bool true, w, ?_, gb_refl _ _, rfl⟩
    clear h
    simp only [execOp, Act.eval, e14]
    go_simp
   trivial
  ·intro qa V3 g3 hsz hdf hrest hslots hpt
   obtain ⟨⟨u11, hs11⟩, ⟨u12, hs12⟩, ⟨u13, hs13⟩, ⟨u14, hs14⟩, _⟩ := Fg.slotvs qa [11, 12, 13, 14]
   obtain rfl := Fg.frame_by [11, 12, 13, 14, 15] (vs := [_, _, _, _, _, _, _, _, _, _, _, u11, u12, u13, u14, Value.bool true, _, _]) hsz hrest (by kernel_rfl) rfl rfl ⟨hs11, hs12, hs13, hs14, (show qa.tmps.getD 15 undef = Value.bool true from hslots 15 (by kernel_rfl)), trivial⟩ hdf
   clear hsz hdf hrest hslots hpt hs11 hs12 hs13 hs14
   replace hR := hR.gn g3
   replace hb4 := hb4.gn g3
   replace G := gb_trans G g3
   clear g3
   go_upto_region 5 with (fail)
   have Gs3 := G.size
   have l3hR := hR.lt
   have l3hb4 := hb4.lt
   refine Fg.rP [] [.any, .any, .any, .any, .any, .any, .any, .any, .any, .any, .any, .any, .any, .any, .any, .any, .val (Fe.zeroF.v)] 1 ?_ ?_
   ·refine Fg.vS rfl (by decide) (fun ac w h => ?_) ?_
    ·exact Fg.vn Fe.zeroF.v (Fg.run_build (vs := #[]) rfl (by simp) (by kernel_rfl))
    trivial
   ·intro qa V4 g4 hsz hdf hrest hslots hpt
    obtain rfl := Fg.frame_by [16] (vs := [_, _, _, _, _, _, _, _, _, _, _, _, _, _, _, _, Fe.zeroF.v, _]) hsz hrest (by kernel_rfl) rfl rfl ⟨(show qa.tmps.getD 16 undef = Fe.zeroF.v from hslots 16 (by kernel_rfl)), trivial⟩ hdf
    clear hsz hdf hrest hslots hpt
    replace hR := hR.gn g4
    replace hb4 := hb4.gn g4
    replace G := gb_trans G g4
    clear g4
    refine Fg.wpl_skip rfl rfl (Fg.run_store (cs := feL Fe.zeroF) rfl rfl rfl (hR.there 0 5 (by show 0 + 5 ≤ 5; decide)) info_elem (feL_one _)) ?_
    replace hR : Blk (V4.setCells w0.heap.size 0 (feL Fe.zeroF)) w0.heap.size 27 (feL Fe.zeroF) := hR.setAll rfl
    replace hb4 := hb4.setCells_other (C := w0.heap.size) (cs := feL Fe.zeroF) 0 (by omega)
    replace G := gb_setCells_new (cs := feL Fe.zeroF) G (B := w0.heap.size) (by omega) 0
    revert hR hb4 G
    generalize V4.setCells w0.heap.size 0 (feL Fe.zeroF) = W5
    intro hR hb4 G
    go_wp2_with fail
    exact bodyPost_ret (v := .tuple #[Fe.zeroF.v, .bool false]) (results_row_tmp Tryz.results7 _ _ w0.heap.size 27 (feL Fe.zeroF).toArray (0, 0) _ rfl hR Tryz.underlying27 rfl info_elem rfl) rfl ⟨rfl, G⟩
set_option maxRecDepth 100000 in
set_option maxHeartbeats 3200000 in
theorem fget_len (a : Option Addr) (n c : Nat) (w0 : World) (h2 : ((n : Int) != 32) = true) :
  Calls Tryz.prog 7 #[.slice a n c] w0 fun e w' => e = .returned (.tuple #[Fe.zeroF.v, .bool false]) ∧ w0.grownBy w' none := by
 go_enter Tryz.func7, Tryz.ntmps7
 go_upto_region 1 with (fail)
 have G : w0.grownBy (w0.alloc (.cells zr5.toArray 27)) none := gb_alloc (gb_refl _ _) _
 have hR : Blk (w0.alloc (.cells zr5.toArray 27)) (w0.heap.size) 27 zr5 := Blk.new w0 zr5 _
 revert G hR
 generalize w0.alloc (.cells zr5.toArray 27) = W0
 intro G hR
 have Gs := G.size
 go_upto_region 2 with (fail)
 have Gs0 := G.size
 have l1hR := hR.lt
 refine Fg.rP [] [.any, .any, .any, .any, .any, .any, .any, .any, .val (Fe.zeroF.v)] 1 ?_ ?_
 ·refine Fg.vS rfl (by decide) (fun ac w h => ?_) ?_
  ·exact Fg.vn Fe.zeroF.v (Fg.run_build (vs := #[]) rfl (by simp) (by kernel_rfl))
  trivial
 ·intro qa V1 g1 hsz hdf hrest hslots hpt
  obtain rfl := Fg.frame_by [8] (vs := [_, _, _, _, _, _, _, _, Fe.zeroF.v, _, _, _, _, _, _, _, _, _]) hsz hrest (by kernel_rfl) rfl rfl ⟨(show qa.tmps.getD 8 undef = Fe.zeroF.v from hslots 8 (by kernel_rfl)), trivial⟩ hdf
  clear hsz hdf hrest hslots hpt
  replace hR := hR.gn g1
  replace G := gb_trans G g1
  clear g1
  refine Fg.wpl_skip rfl rfl (Fg.run_store (cs := feL Fe.zeroF) rfl rfl rfl (hR.there 0 5 (by show 0 + 5 ≤ 5; decide)) info_elem (feL_one _)) ?_
  replace hR : Blk (V1.setCells w0.heap.size 0 (feL Fe.zeroF)) w0.heap.size 27 (feL Fe.zeroF) := hR.setAll rfl
  replace G := gb_setCells_new (cs := feL Fe.zeroF) G (B := w0.heap.size) (by omega) 0
  revert hR G
  generalize V1.setCells w0.heap.size 0 (feL Fe.zeroF) = W2
  intro hR G
  go_wp2_with fail
  exact bodyPost_ret (v := .tuple #[Fe.zeroF.v, .bool false]) (results_row_tmp Tryz.results7 _ _ w0.heap.size 27 (feL Fe.zeroF).toArray (0, 0) _ rfl hR Tryz.underlying27 rfl info_elem rfl) rfl ⟨rfl, G⟩
end
section
open Go.RowKit Ns Ow
namespace Nr
theorem getP_any (n c B : Nat) (a : Option Addr) (p : List Nat) (w : World) (hn : p.length = n) (hP : BytesAt w B a c p) :
  Calls Tryz.prog 7 #[.slice a n c] w fun e w' => e = .returned (.tuple #[(if readB p = true then fromN (readV p : Int) else Fe.zeroF).v, .bool (readB p)]) ∧ w.grownBy w' none := by
 have hfit := hP.fits
 have hlim := hP.lim
 by_cases h32 : n = 32
 ·subst h32
  obtain ⟨pb, po, rfl, hlt, hc⟩ := hP.cells.resolve_left (by omega)
  have hF : ∀ i, 0 ≤ ((p.getD i 0 : Nat) : Int) ∧ ((p.getD i 0 : Nat) : Int) < 256 := fun i => by have := hP.byte i; omega
  have hw := readV_word p
  have hPi : Fe.P = 57896044618658097711785492504343953926634992332820282019728792003956564819949 := rfl
  rcases Nat.lt_or_ge (readV p) Fe.P with h | h
  ·have hb : readB p = true := by unfold readB; rw [hn, decide_eq_true h]; rfl
   rw [hb, if_pos rfl, hw]
   exact fget_yes pb po c _ w (by omega) hF (fun i hi => hc i (by omega)) (by omega) (by rw [← hw]; omega)
  ·have hb : readB p = false := by unfold readB; rw [hn, decide_eq_false (Nat.not_lt.2 h)]; rfl
   rw [hb, if_neg (by decide)]
   exact fget_no pb po c _ w (by omega) hF (fun i hi => hc i (by omega)) (by omega) (by rw [← hw]; omega)
 ·have hb : readB p = false := by unfold readB; rw [hn, decide_eq_false h32]; rfl
  rw [hb, if_neg (by decide)]
  exact fget_len a n c w (by simp; omega)
end Nr
end
section
open Go.RowKit Ns Ow
namespace Nr
theorem stG {ρ : Operand → Value} {o : Oper} {w : World} {x y : Operand} {B : Nat} {a : Fe} {L : List Value} (ho : o.op = .store 27 x y) (hx : ρ x = .pointer (some ⟨B, 0, none⟩)) (hy : ρ y = a.v) (h : Blk w B 27 L) (hL : L.length = 5) : (execOp ρ o).run Tryz.prog w = .ok .skip (w.setCells B 0 (feL a)) :=
  Fg.run_store ho hx hy (h.there 0 5 (by rw [hL]; decide)) info_elem5 rfl
theorem storedG {w : World} {B : Nat} {a : Fe} {L : List Value} (h : Blk w B 27 L) (hL : L.length = 5) : Blk (w.setCells B 0 (feL a)) B 27 (feL a) := h.setAll (by rw [hL]; rfl)
theorem varG (w : World) (a : Fe) : Blk ((w.alloc (.cells (feL Fe.zeroF).toArray 27)).setCells w.heap.size 0 (feL a)) w.heap.size 27 (feL a) ∧ w.grownBy ((w.alloc (.cells (feL Fe.zeroF).toArray 27)).setCells w.heap.size 0 (feL a)) none ∧ w.heap.size < ((w.alloc (.cells (feL Fe.zeroF).toArray 27)).setCells w.heap.size 0 (feL a)).heap.size := by
  have h := storedG (a := a) (Blk.new w (feL Fe.zeroF) 27) rfl
  exact ⟨h, gb_setCells_new (gb_alloc (gb_refl w none) _) (Nat.le_refl _) 0, h.lt⟩
theorem run_eqE0 {ρ : Operand → Value} {o : Oper} {w : World} {x y : Operand} {t : TypeId} (ho : o.op = .binOp .eql 27 x y t) (hx : ρ x = Fe.zeroF.v) (hy : ρ y = Fe.zeroF.v) : (execOp ρ o).run Tryz.prog w = .ok (.value (.bool true)) w := by
  obtain ⟨j, hj⟩ : ∃ i, Tryz.prog.info? 25 = some i := by
    cases h : Tryz.prog.info? 25 with
    | none => exact absurd h (by have : (Tryz.prog.info? 25).isSome = true := by kernel_rfl
                                 intro e; rw [e] at this; cases this)
    | some i => exact ⟨i, rfl⟩
  have hc : Tryz.prog.cellsOf 25 = 1 := by kernel_rfl
  have hg : ∀ i ∈ List.range 5, (#[Value.int .u64 0, .int .u64 0, .int .u64 0, .int .u64 0, .int .u64 0] : Array Value)[i * 1]? = some (.int .u64 ((fun _ => (0 : Int)) i)) := fun i hi => by
    have := List.mem_range.1 hi
    rcases i with _ | _ | _ | _ | _ | i <;> first | rfl | omega
  have h1 : (Op.equalIn 10000 27 (.agg #[.int .u64 0, .int .u64 0, .int .u64 0, .int .u64 0, .int .u64 0]) (.agg #[.int .u64 0, .int .u64 0, .int .u64 0, .int .u64 0, .int .u64 0])).run Tryz.prog w = .ok true w := by
    rw [run_equalIn_array w 9999 _ _ Tryz.underlying27 hj, hc, n_eqItems w 9998 (by kernel_rfl) Tryz.underlying25 (fun _ => 0) (fun _ => 0) _ _ _ hg hg]
    rfl
  have hgd : Tryz.prog.eqGuardType Tryz.prog.depth 27 = false := by kernel_rfl
  have g : (eqGuard .eql 27 x y (.agg #[.int .u64 0, .int .u64 0, .int .u64 0, .int .u64 0, .int .u64 0]) (.agg #[.int .u64 0, .int .u64 0, .int .u64 0, .int .u64 0, .int .u64 0])).run Tryz.prog w = .ok () w := by
    unfold eqGuard
    simp [hgd]
  unfold execOp
  simp only [ho, hx, hy, Fe.zeroF, Fe.v, Sem.run_bind, g, Result.andThen_ok, run_eql_struct, h1, Sem.run_pure]
structure GotIs (p : List Nat) (r : Fe) (v : List Nat) (ok : Bool) : Prop where
  ri : r.Right
  len : v.length = 16
  get : ∀ (n c B : Nat) (a : Option Addr) (w : World), p.length = n → BytesAt w B a c p → Calls Tryz.prog 7 #[.slice a n c] w fun e w' => e = .returned (.tuple #[r.v, .bool ok]) ∧ w.grownBy w' none
  read : ∀ (n c B : Nat) (a : Option Addr) (w : World), p.length = n → BytesAt w B a c p → Calls Tryz.prog 8 #[.slice a n c] w fun e w' => e = .returned (.tuple #[nV v, .bool ok]) ∧ w.grownBy w' none
  no : ok = false → r = Fe.zeroF
  yes : ok = true → p.length = 32 ∧ byL (num r.m) = p ∧ ∀ w, Calls Tryz.prog 10 #[r.v, nV v] w fun e w' => e = .returned (.bool true) ∧ w.grownBy w' none
theorem got_is {p : List Nat} (hb : ∀ i, p.getD i 0 < 256) : ∃ r v ok, GotIs p r v ok := by
  have g := fun n c B a w hn hP => getP_any n c B a p w hn hP
  have r := fun n c B a w hn hP => refRead_any n c B a p w hn hP
  cases h : readB p with
  | false =>
    unfold readR at r
    simp only [h] at g r
    exact ⟨Fe.zeroF, zeros, false, zero_right, rfl, fun n c B a w hn hP => g n c B a w hn hP, fun n c B a w hn hP => r n c B a w hn hP, fun _ => rfl, fun h => (by cases h)⟩
  | true =>
    unfold readR at r
    simp only [h, if_true] at g r
    have hh := h
    unfold readB at hh
    rw [Bool.and_eq_true, decide_eq_true_iff, decide_eq_true_iff] at hh
    have hP2 : Fe.P = 57896044618658097711785492504343953926634992332820282019728792003956564819949 := rfl
    have hR : (fromN (readV p : Int)).Right := fromN_right (by omega) (by omega)
    have hm : (fromN (readV p : Int)).m = readV p := by have := fromN_m (x := (readV p : Int)); omega
    refine ⟨fromN (readV p : Int), num (readV p), true, hR, num_len _, fun n c B a w hn hP => g n c B a w hn hP, fun n c B a w hn hP => r n c B a w hn hP, fun h => (by cases h), fun _ => ⟨hh.1, ?_, fun w => c_is _ _ w hR ?_⟩⟩
    · rw [hm, read_num hb hh.2, byL_pairL hb hh.1]
    · rw [hm, Nat.mod_eq_of_lt hh.2]
theorem gets_great (n c : Nat) (a : Option Addr) (w : World) (hT : FTab w) (h : 100 < n) :
    Calls Tryz.prog 3 #[.slice a n c] w fun e w' => e = .returned (.bool true) ∧ w.grownBy w' none := by
  have HW := Lib.hid (awake_any w hT); clear hT
  have i1 : (n : Int) > 100 := by omega
  clear h
  go_enter Tryz.func3, Tryz.ntmps3
  go_wp2_with fail
  refine HW.out.mono ?_
  rintro e w1 ⟨rfl, hg1⟩
  have HG := Lib.hid hg1; clear hg1 HW
  go_wp2
  go_ret
  exact ⟨rfl, HG.out⟩
theorem lent_bytes {f : Nat → Nat → Nat} {w : World} {g n : Nat} {p : List Nat} (hG : Blk w g 5 ((p ++ marksOf f 1 12).map u8N)) (hn : p.length = n) (hl : n ≤ 100000) (hb : ∀ i, p.getD i 0 < 256) : BytesAt w w.heap.size (some ⟨g, 0, none⟩) (n + 12) p := by
  refine ⟨Nat.le_refl _, by omega, by omega, hb, Or.inr ⟨g, 0, rfl, hG.lt, fun i hi => ?_⟩⟩
  rw [Nat.zero_add]
  refine hG.cell ?_
  rw [List.getElem?_map, List.getElem?_append_left hi, List.getD_eq_getElem?_getD, List.getElem?_eq_getElem hi]
  rfl
theorem put_lit {r : Fe} {p : List Nat} (h : r.Ok) (hp : byL (num r.m) = p) (w : World) : Calls Tryz.prog 12 #[r.v] w fun e w' => ∃ N, e = .returned (.slice (some ⟨N, 0, none⟩) 32 32) ∧ w.grownBy w' none ∧ w.heap.size ≤ N ∧ Blk w' N 57 (p.map u8N) := by
  have hb := bytesV_is r.m (by have := m_lt r; rw [P_is] at this; exact this)
  rw [hp] at hb
  refine (put_any r w h).mono ?_
  rintro e w' ⟨NB, rfl, hg, hn, hB⟩
  exact ⟨NB, rfl, hg, hn, by rw [← hb]; exact hB⟩
theorem put_row {r : Fe} {p : List Nat} {n0 : Nat} {w : World} (h : Calls Tryz.prog 12 #[r.v] w fun e w' => ∃ N, e = .returned (.slice (some ⟨N, 0, none⟩) 32 32) ∧ w.grownBy w' none ∧ w.heap.size ≤ N ∧ Blk w' N 57 (p.map u8N)) (hn0 : n0 ≤ w.heap.size) :
    Calls Tryz.prog 12 #[r.v] w fun e w' => ∃ v, e = .returned v ∧ w.grownBy w' none ∧ (∃ N, v = .slice (some ⟨N, 0, none⟩) 32 32 ∧ n0 ≤ N ∧ Blk w' N 57 (p.map u8N)) ∧ ∀ C, Fs.blkOf v = some C → w.heap.size ≤ C ∧ C < w'.heap.size := by
  refine h.mono ?_
  rintro e w' ⟨N, rfl, hg, hn, hb⟩
  exact ⟨_, rfl, hg, ⟨N, rfl, by omega, hb⟩, fun C e => by cases e; exact ⟨hn, hb.lt⟩⟩
theorem put_row0 {r : Fe} {p : List Nat} {n0 : Nat} {w : World} (h : Calls Tryz.prog 12 #[r.v] w fun e w' => ∃ N, e = .returned (.slice (some ⟨N, 0, none⟩) 32 32) ∧ w.grownBy w' none ∧ w.heap.size ≤ N ∧ Blk w' N 57 (p.map u8N)) (hn0 : n0 ≤ w.heap.size) :
    Calls Tryz.prog 12 #[r.v] w fun e w' => ∃ v, e = .returned v ∧ w.grownBy w' none ∧ (∃ N, v = .slice (some ⟨N, 0, none⟩) 32 32 ∧ n0 ≤ N ∧ Blk w' N 57 (p.map u8N)) :=
  (put_row h hn0).mono fun _ _ ⟨v, h1, h2, h3, _⟩ => ⟨v, h1, h2, h3⟩
theorem same_lit {p : List Nat} {a : Option Addr} {c B g : Nat} {T : TypeId} {w : World} (hl : p.length = 32) (h1 : Blk w g T (p.map u8N)) (h2 : BytesAt w B a c p) : Calls Tryz.prog 11 #[.slice (some ⟨g, 0, none⟩) 32 32, .slice a 32 c] w fun e w' => e = .returned (.bool true) ∧ w.grownBy w' none := by
  have := same_row p (some ⟨g, 0, none⟩) a 32 c w.heap.size B w ⟨Nat.le_refl _, by omega, by decide, h2.byte, Or.inr ⟨g, 0, rfl, h1.lt, fun i hi => by
    rw [Nat.zero_add]
    refine h1.cell ?_
    rw [List.getElem?_map, List.getD_eq_getElem?_getD, List.getElem?_eq_getElem hi]
    rfl⟩⟩ h2
  rwa [hl] at this
def It2 (L : List Value) (n0 : Nat) : Fg.It := ⟨fun v w => ∃ N g1 g2, v = .slice (some ⟨N, 0, none⟩) 2 2 ∧ Blk w N 22 [.slice (some ⟨g1, 0, none⟩) 32 32, .slice (some ⟨g2, 0, none⟩) 32 32] ∧ (Blk w g1 57 L ∧ Blk w g2 57 L) ∧ (g1 ≠ g2 ∧ g1 ≠ N ∧ g2 ≠ N ∧ n0 ≤ g1 ∧ n0 ≤ g2),
  fun _ _ _ ⟨N, g1, g2, e, h, ⟨h1, h2⟩, h3⟩ hg => ⟨N, g1, g2, e, h.grown hg (by simp), ⟨h1.grown hg (by simp), h2.grown hg (by simp)⟩, h3⟩⟩
set_option maxRecDepth 100000 in
set_option maxHeartbeats 4000000 in
theorem gets_small {f : Nat → Nat → Nat} (hf : Marks f) (n c B : Nat) (a : Option Addr) (p : List Nat) (w : World) (hT : FTab w) (l1 : n ≤ 100) (h1 : p.length = n) (hP : BytesAt w B a c p) :
    Calls Tryz.prog 3 #[.slice a n c] w fun e w' => e = .returned (.bool true) ∧ w.grownBy w' none := by
  have i1 : ¬ (n : Int) > 100 := by omega
  have HF := Lib.hid hf
  have H : Hid (FTab w ∧ p.length = n ∧ BytesAt w B a c p ∧ n ≤ 100) := ⟨hT, h1, hP, l1⟩
  clear hf hT h1 hP l1
  go_enter Tryz.func3, Tryz.ntmps3
  go_wp2_with fail
  refine (lentB_any HF.out n c B p a w H.out.2.1 H.out.2.2.1 (by omega)).mono ?_
  rintro e w1 ⟨gx, rfl, hg1, hs1, hb1⟩
  have K1 := Lib.hid (And.intro hg1 (And.intro hs1 hb1)); clear hg1 hs1 hb1
  have HL : Hid (∀ w', w1.grownBy w' none → BytesAt w' w'.heap.size (some ⟨gx, 0, none⟩) (n + 12) p ∧ BytesAt w' B a c p ∧ FTab w') := fun w' hg => ⟨lent_bytes (K1.out.2.2.grown hg (by simp)) H.out.2.1 (by have := H.out.2.2.2; omega) H.out.2.2.1.byte, H.out.2.2.1.stay (gb_trans K1.out.1 hg), H.out.1.grown (gb_trans K1.out.1 hg)⟩
  have HK : Hid (∀ w', w1.grownBy w' none → Calls Tryz.prog 9 #[.slice (some ⟨gx, 0, none⟩) n (n + 12), .slice a n c] w' fun e w'' => e = .returned (.bool true) ∧ w'.grownBy w'' none) := fun w' hg => keptB_any HF.out n c B gx p a w' H.out.2.1 (HL.out w' hg).2.1 (by have := H.out.2.2.2; omega) (K1.out.2.2.grown hg (by simp))
  have HA : Hid (∀ w', w1.grownBy w' none → Calls Tryz.prog 5 #[] w' fun e w'' => e = .returned (.bool true) ∧ w'.grownBy w'' none) := fun w' hg => awake_any w' (HL.out w' hg).2.2
  obtain ⟨r, v, ok, hgot⟩ := got_is H.out.2.2.1.byte
  have HG := Lib.hid hgot; clear hgot
  go_upto_region 4 with (fail)
  refine wp_region_lit ?_
  refine Fg.wpl_value (v := .slice (some ⟨gx, 0, none⟩) n (n + 12)) (w' := w1) rfl (Fg.run_move rfl rfl) ?_
  simp only [Act.put, List.setIfInBounds_toArray, List.set_cons_succ, List.set_cons_zero]
  refine Fg.wpl_call rfl (Fg.run_call (vs := #[.slice (some ⟨gx, 0, none⟩) n (n + 12)]) rfl rfl (by simp only [List.map_toArray, List.map_cons, List.map_nil, Act.eval] <;> rfl) (Fg.run_enter Tryz.func7 (by kernel_rfl) (by kernel_rfl))) ?_
  refine (HG.out.get n _ _ _ w1 H.out.2.1 (HL.out w1 (gb_refl _ _)).1).mono ?_
  rintro e w2 ⟨rfl, gw2⟩
  refine ⟨_, rfl, ?_⟩
  simp only [Act.put, List.setIfInBounds_toArray, List.set_cons_succ, List.set_cons_zero]
  refine Fg.wpl_value (v := .tuple #[r.v, .bool ok]) (w' := w2) rfl (Fg.run_move rfl rfl) ?_
  simp only [Act.put, List.setIfInBounds_toArray, List.set_cons_succ, List.set_cons_zero]
  refine Fg.wpl_value (v := r.v) (w' := w2) rfl (by go_simp <;> rfl) ?_
  simp only [Act.put, List.setIfInBounds_toArray, List.set_cons_succ, List.set_cons_zero]
  refine Fg.wpl_value (v := .bool ok) (w' := w2) rfl (by go_simp <;> rfl) ?_
  simp only [Act.put, List.setIfInBounds_toArray, List.set_cons_succ, List.set_cons_zero]
  refine Fg.wpl_value (v := .pointer (some ⟨w2.heap.size, 0, none⟩)) (w' := w2.alloc (.cells (feL Fe.zeroF).toArray 27)) rfl (by go_simp; rfl) ?_
  simp only [Act.put, List.setIfInBounds_toArray, List.set_cons_succ, List.set_cons_zero]
  refine Fg.wpl_skip rfl rfl (stG (a := r) rfl rfl rfl (Blk.new w2 (feL Fe.zeroF) 27) rfl) ?_
  refine Fg.wpl_value (v := .bool ok) (w' := _) rfl (Fg.run_assign rfl rfl) ?_
  simp only [Act.put, List.setIfInBounds_toArray, List.set_cons_succ, List.set_cons_zero]
  refine wpList_nil ?_
  obtain ⟨h3, g3, s3⟩ := varG w2 r
  revert h3 g3 s3
  generalize World.setCells _ _ _ _ = w3
  intro h3 g3 s3
  have K3 := Lib.hid (And.intro (gb_trans gw2 g3) h3); clear g3 h3
  go_upto_region 5 with (fail)
  refine wp_region_lit ?_
  refine Fg.wpl_value (v := .slice a n c) (w' := w3) rfl (Fg.run_move rfl rfl) ?_
  simp only [Act.put, List.setIfInBounds_toArray, List.set_cons_succ, List.set_cons_zero]
  refine Fg.wpl_call rfl (Fg.run_call (vs := #[.slice a n c]) rfl rfl (by simp only [List.map_toArray, List.map_cons, List.map_nil, Act.eval] <;> rfl) (Fg.run_enter Tryz.func8 (by kernel_rfl) (by kernel_rfl))) ?_
  refine (HG.out.read n _ _ _ w3 H.out.2.1 (HL.out w3 K3.out.1).2.1).mono ?_
  rintro e w4 ⟨rfl, gw4⟩
  refine ⟨_, rfl, ?_⟩
  simp only [Act.put, List.setIfInBounds_toArray, List.set_cons_succ, List.set_cons_zero]
  refine Fg.wpl_value (v := .tuple #[nV v, .bool ok]) (w' := w4) rfl (Fg.run_move rfl rfl) ?_
  simp only [Act.put, List.setIfInBounds_toArray, List.set_cons_succ, List.set_cons_zero]
  refine Fg.wpl_value (v := nV v) (w' := w4) rfl (by go_simp <;> rfl) ?_
  simp only [Act.put, List.setIfInBounds_toArray, List.set_cons_succ, List.set_cons_zero]
  refine Fg.wpl_value (v := .bool ok) (w' := w4) rfl (by go_simp <;> rfl) ?_
  simp only [Act.put, List.setIfInBounds_toArray, List.set_cons_succ, List.set_cons_zero]
  refine Fg.wpl_value (v := .pointer (some ⟨w4.heap.size, 0, none⟩)) (w' := w4.alloc (.cells (pL zeros).toArray 31)) rfl (by go_simp; rfl) ?_
  simp only [Act.put, List.setIfInBounds_toArray, List.set_cons_succ, List.set_cons_zero]
  refine Fg.wpl_skip rfl rfl (st (l := v) rfl rfl rfl (new (w := w4) rfl zeros) rfl HG.out.len rfl) ?_
  refine Fg.wpl_value (v := .bool ok) (w' := _) rfl (Fg.run_assign rfl rfl) ?_
  simp only [Act.put, List.setIfInBounds_toArray, List.set_cons_succ, List.set_cons_zero]
  refine wpList_nil ?_
  obtain ⟨h5, g5, s5⟩ := var w4 v HG.out.len
  revert h5 g5 s5
  generalize World.setCells _ _ _ _ = w5
  intro h5 g5 s5
  have K5 := Lib.hid (And.intro (gb_trans (gb_trans K3.out.1 gw4) g5) (And.intro (K3.out.2.grown (gb_trans gw4 g5) (by simp)) h5)); clear g5 h5 gw4
  obtain ⟨N4, hN4⟩ : ∃ N4, N4 = w2.heap.size := ⟨_, rfl⟩
  obtain ⟨N6, hN6⟩ : ∃ N6, N6 = w4.heap.size := ⟨_, rfl⟩
  rw [← hN4] at K5 ⊢
  rw [← hN6] at K5 ⊢
  clear hN4 hN6 s3 s5 gw2 K3
  have hnn : (ok != ok) = false := by cases ok <;> rfl
  go_wp2_with fail
  refine (HK.out w5 K5.out.1).mono ?_
  rintro e w6 ⟨rfl, hg6⟩
  have K6 := Lib.hid (And.intro (gb_trans K5.out.1 hg6) (And.intro (K5.out.2.1.grown hg6 (by simp)) (K5.out.2.2.grown hg6 (by simp)))); clear hg6
  cases ok with
  | false =>
    obtain rfl := HG.out.no rfl
    go_upto_region 9 with (fail)
    refine wp_region_lit ?_
    refine Fg.wpl_value (v := Fe.zeroF.v) (w' := w6) rfl (ldE rfl rfl K6.out.2.1) ?_
    simp only [Act.put, List.setIfInBounds_toArray, List.set_cons_succ, List.set_cons_zero]
    refine Fg.wpl_value (v := Fe.zeroF.v) (w' := w6) rfl (by go_simp; rfl) ?_
    simp only [Act.put, List.setIfInBounds_toArray, List.set_cons_succ, List.set_cons_zero]
    refine Fg.wpl_value (v := .bool true) (w' := w6) rfl (run_eqE0 rfl rfl rfl) ?_
    simp only [Act.put, List.setIfInBounds_toArray, List.set_cons_succ, List.set_cons_zero]
    have K7 := Lib.hid K6.out.1; clear K6
    go_wp2_with fail
    refine (HA.out w6 K7.out).mono ?_
    rintro e w7 ⟨rfl, hg7⟩
    have K8 := Lib.hid (gb_trans (gb_trans K1.out.1 K7.out) hg7); clear hg7
    go_wp2
    go_ret
    exact ⟨rfl, K8.out⟩
  | true =>
    obtain ⟨hl32, hby, his⟩ := HG.out.yes rfl
    obtain rfl : n = 32 := by rw [← H.out.2.1]; exact hl32
    have HI := Lib.hid his; clear his
    have HPt := Lib.hid (put_lit HG.out.ri.ok hby)
    clear hby
    go_upto_region 10 with (fail)
    refine Fs.region_t [52, 54] [.any, .any, .any, .any, .any, .any, .any, .any, .any, .any, .any, .any, .any, .any, .any, .any, .any, .any, .any, .any, .any, .any, .any, .any, .any, .any, .any, .any, .any, .any, .any, .any, .any, .any, .any, .any, .any, .any, .any, .any, .any, .val (r.v), .val (nV v), .val (Value.bool true), .val (Value.bool true), .val (r.v), .row 57 (p.map u8N) 32 w6.heap.size, .val (Value.slice a 32 c), .val (Value.bool true), .val (Value.bool true), .val (Value.bool true), .val (r.v), .row 57 (p.map u8N) 32 w6.heap.size, .val (r.v), .row 57 (p.map u8N) 32 w6.heap.size, It2 (p.map u8N) w6.heap.size] w6 15 (gb_refl _ _) (by kernel_rfl) (by kernel_rfl) (by kernel_rfl) (by kernel_rfl) (by decide) (by kernel_rfl) ?_ ?_
    · refine ⟨Fs.vT rfl (by decide) fun ac w h => ?_, ?_⟩
      · have e4 : ac.tmps.getD 4 undef = Value.pointer (some ⟨N4, 0, none⟩) := h.rest 4 (by kernel_rfl)
        refine ⟨r.v, w, wants_none rfl, ?_, gb_refl _ _, rfl⟩
        exact ldE rfl e4 (K6.out.2.1.grown h.base (by simp))
      refine ⟨Fs.vT rfl (by decide) fun ac w h => ?_, ?_⟩
      · have e6 : ac.tmps.getD 6 undef = Value.pointer (some ⟨N6, 0, none⟩) := h.rest 6 (by kernel_rfl)
        refine ⟨nV v, w, wants_none rfl, ?_, gb_refl _ _, rfl⟩
        exact ld rfl e6 (K6.out.2.2.grown h.base (by simp)) HG.out.len rfl rfl
      refine ⟨Fs.cT rfl (by decide) fun ac w h => ?_, ?_⟩
      · have e41 : ac.tmps.getD 41 undef = r.v := h.dep 41 (by kernel_rfl)
        have e42 : ac.tmps.getD 42 undef = nV v := h.dep 42 (by kernel_rfl)
        refine ⟨10, #[r.v, nV v], wants_none rfl, Fg.run_call rfl rfl (by simp only [List.map_toArray, List.map_cons, List.map_nil, Act.eval, e41, e42]) (Fg.run_enter Tryz.func10 (by kernel_rfl) (by kernel_rfl)), ?_⟩
        exact (HI.out w).mono fun _ _ ⟨he, hg⟩ => ⟨_, he, hg, rfl⟩
      refine ⟨Fs.vT rfl (by decide) fun ac w h => ?_, ?_⟩
      · have e43 : ac.tmps.getD 43 undef = Value.bool true := h.dep 43 (by kernel_rfl)
        exact ⟨_, w, wants_none rfl, Fg.run_move rfl e43, gb_refl _ _, rfl⟩
      refine ⟨Fs.vT rfl (by decide) fun ac w h => ?_, ?_⟩
      · have e44 : ac.tmps.getD 44 undef = Value.bool true := h.dep 44 (by kernel_rfl)
        have e4 : ac.tmps.getD 4 undef = Value.pointer (some ⟨N4, 0, none⟩) := h.rest 4 (by kernel_rfl)
        refine ⟨r.v, w, wants_some (d := 44) rfl rfl (by rw [h.size]; show 44 < 61; decide) e44, ?_, gb_refl _ _, rfl⟩
        exact ldE rfl e4 (K6.out.2.1.grown h.base (by simp))
      refine ⟨Fs.cT rfl (by decide) fun ac w h => ?_, ?_⟩
      · have e44 : ac.tmps.getD 44 undef = Value.bool true := h.dep 44 (by kernel_rfl)
        have e45 : ac.tmps.getD 45 undef = r.v := h.dep 45 (by kernel_rfl)
        refine ⟨12, #[r.v], wants_some (d := 44) rfl rfl (by rw [h.size]; show 44 < 61; decide) e44, Fg.run_call rfl rfl (by simp only [List.map_toArray, List.map_cons, List.map_nil, Act.eval, e45]) (Fg.run_enter Tryz.func12 (by kernel_rfl) (by kernel_rfl)), ?_⟩
        exact (put_row0 (HPt.out w) h.base.size).mono fun _ _ ⟨v, he, hg, hb⟩ => ⟨v, he, hg, hb⟩
      refine ⟨Fs.vT rfl (by decide) fun ac w h => ?_, ?_⟩
      · have e44 : ac.tmps.getD 44 undef = Value.bool true := h.dep 44 (by kernel_rfl)
        have e0 : ac.tmps.getD 0 undef = Value.slice a 32 c := h.rest 0 (by kernel_rfl)
        exact ⟨_, w, wants_some (d := 44) rfl rfl (by rw [h.size]; show 44 < 61; decide) e44, Fg.run_move rfl e0, gb_refl _ _, rfl⟩
      refine ⟨Fs.cT rfl (by decide) fun ac w h => ?_, ?_⟩
      · have e44 : ac.tmps.getD 44 undef = Value.bool true := h.dep 44 (by kernel_rfl)
        obtain ⟨g46, e46, n46, b46⟩ : ∃ N, ac.tmps.getD 46 undef = .slice (some ⟨N, 0, none⟩) 32 32 ∧ w6.heap.size ≤ N ∧ Blk w N 57 (p.map u8N) := h.dep 46 (by kernel_rfl)
        have e47 : ac.tmps.getD 47 undef = Value.slice a 32 c := h.dep 47 (by kernel_rfl)
        refine ⟨11, #[Value.slice (some ⟨g46, 0, none⟩) 32 32, Value.slice a 32 c], wants_some (d := 44) rfl rfl (by rw [h.size]; show 44 < 61; decide) e44, Fg.run_call rfl rfl (by simp only [List.map_toArray, List.map_cons, List.map_nil, Act.eval, e46, e47]) (Fg.run_enter Tryz.func11 (by kernel_rfl) (by kernel_rfl)), ?_⟩
        exact (same_lit hl32 b46 (HL.out w (gb_trans K6.out.1 h.base)).2.1).mono fun _ _ ⟨he, hg⟩ => ⟨_, he, hg, rfl⟩
      refine ⟨Fs.vT rfl (by decide) fun ac w h => ?_, ?_⟩
      · have e44 : ac.tmps.getD 44 undef = Value.bool true := h.dep 44 (by kernel_rfl)
        have e48 : ac.tmps.getD 48 undef = Value.bool true := h.dep 48 (by kernel_rfl)
        refine ⟨Value.bool true, w, wants_none rfl, ?_, gb_refl _ _, rfl⟩
        clear h
        simp only [execOp, Act.eval, e44, e48]
        go_simp
      refine ⟨Fs.vT rfl (by decide) fun ac w h => ?_, ?_⟩
      · have e49 : ac.tmps.getD 49 undef = Value.bool true := h.dep 49 (by kernel_rfl)
        exact ⟨_, w, wants_none rfl, Fg.run_move rfl e49, gb_refl _ _, rfl⟩
      refine ⟨Fs.vT rfl (by decide) fun ac w h => ?_, ?_⟩
      · have e50 : ac.tmps.getD 50 undef = Value.bool true := h.dep 50 (by kernel_rfl)
        have e4 : ac.tmps.getD 4 undef = Value.pointer (some ⟨N4, 0, none⟩) := h.rest 4 (by kernel_rfl)
        refine ⟨r.v, w, wants_some (d := 50) rfl rfl (by rw [h.size]; show 50 < 61; decide) e50, ?_, gb_refl _ _, rfl⟩
        exact ldE rfl e4 (K6.out.2.1.grown h.base (by simp))
      refine ⟨Fs.cF rfl (by show 52 < 61; decide) fun ac w h => ?_, ?_⟩
      · have e50 : ac.tmps.getD 50 undef = Value.bool true := h.dep 50 (by kernel_rfl)
        have e51 : ac.tmps.getD 51 undef = r.v := h.dep 51 (by kernel_rfl)
        refine ⟨12, #[r.v], wants_some (d := 50) rfl rfl (by rw [h.size]; show 50 < 61; decide) e50, Fg.run_call rfl rfl (by simp only [List.map_toArray, List.map_cons, List.map_nil, Act.eval, e51]) (Fg.run_enter Tryz.func12 (by kernel_rfl) (by kernel_rfl)), ?_⟩
        exact (put_row (HPt.out w) h.base.size).mono fun _ _ ⟨v, he, hg, hb, hn⟩ => ⟨v, he, hg, hb, hn⟩
      refine ⟨Fs.vT rfl (by decide) fun ac w h => ?_, ?_⟩
      · have e50 : ac.tmps.getD 50 undef = Value.bool true := h.dep 50 (by kernel_rfl)
        have e4 : ac.tmps.getD 4 undef = Value.pointer (some ⟨N4, 0, none⟩) := h.rest 4 (by kernel_rfl)
        refine ⟨r.v, w, wants_some (d := 50) rfl rfl (by rw [h.size]; show 50 < 61; decide) e50, ?_, gb_refl _ _, rfl⟩
        exact ldE rfl e4 (K6.out.2.1.grown h.base (by simp))
      refine ⟨Fs.cF rfl (by show 54 < 61; decide) fun ac w h => ?_, ?_⟩
      · have e50 : ac.tmps.getD 50 undef = Value.bool true := h.dep 50 (by kernel_rfl)
        have e53 : ac.tmps.getD 53 undef = r.v := h.dep 53 (by kernel_rfl)
        refine ⟨12, #[r.v], wants_some (d := 50) rfl rfl (by rw [h.size]; show 50 < 61; decide) e50, Fg.run_call rfl rfl (by simp only [List.map_toArray, List.map_cons, List.map_nil, Act.eval, e53]) (Fg.run_enter Tryz.func12 (by kernel_rfl) (by kernel_rfl)), ?_⟩
        exact (put_row (HPt.out w) h.base.size).mono fun _ _ ⟨v, he, hg, hb, hn⟩ => ⟨v, he, hg, hb, hn⟩
      refine ⟨Fs.vT rfl (by decide) fun ac w h => ?_, ?_⟩
      · have e50 : ac.tmps.getD 50 undef = Value.bool true := h.dep 50 (by kernel_rfl)
        obtain ⟨g52, e52, n52, b52⟩ : ∃ N, ac.tmps.getD 52 undef = .slice (some ⟨N, 0, none⟩) 32 32 ∧ w6.heap.size ≤ N ∧ Blk w N 57 (p.map u8N) := h.dep 52 (by kernel_rfl)
        obtain ⟨g54, e54, n54, b54⟩ : ∃ N, ac.tmps.getD 54 undef = .slice (some ⟨N, 0, none⟩) 32 32 ∧ w6.heap.size ≤ N ∧ Blk w N 57 (p.map u8N) := h.dep 54 (by kernel_rfl)
        have dd : g52 ≠ g54 := fun e => ((h.ptrs 52 (by decide) g52 (by rw [e52]; rfl)).2 54 (by decide) (by decide)) (by rw [e54, e]; rfl)
        have z52 := b52.lt
        have z54 := b54.lt
        refine ⟨.slice (some ⟨w.heap.size, 0, none⟩) 2 2, (w.alloc (.cells #[.slice (some ⟨g52, 0, none⟩) 32 32, .slice (some ⟨g54, 0, none⟩) 32 32] 22)), wants_some (d := 50) rfl rfl (by rw [h.size]; show 50 < 61; decide) e50, ?_, gb_alloc (gb_refl _ _) _, ⟨w.heap.size, g52, g54, rfl, Blk.new w _ _, ⟨b52.grown (gb_alloc (gb_refl w none) _) (by simp), b54.grown (gb_alloc (gb_refl w none) _) (by simp)⟩, dd, by omega, by omega, n52, n54⟩⟩
        clear h
        simp only [execOp, Act.eval, e52, e54, List.map_toArray, List.map_cons, List.map_nil]
        go_simp
      trivial
    · intro aq wq hB hsz hdf hrest hslots hpt
      obtain ⟨u41, e41⟩ : ∃ u, aq.tmps.getD 41 undef = u := ⟨_, rfl⟩
      obtain ⟨u42, e42⟩ : ∃ u, aq.tmps.getD 42 undef = u := ⟨_, rfl⟩
      obtain ⟨u43, e43⟩ : ∃ u, aq.tmps.getD 43 undef = u := ⟨_, rfl⟩
      obtain ⟨u44, e44⟩ : ∃ u, aq.tmps.getD 44 undef = u := ⟨_, rfl⟩
      obtain ⟨u45, e45⟩ : ∃ u, aq.tmps.getD 45 undef = u := ⟨_, rfl⟩
      obtain ⟨u46, e46⟩ : ∃ u, aq.tmps.getD 46 undef = u := ⟨_, rfl⟩
      obtain ⟨u47, e47⟩ : ∃ u, aq.tmps.getD 47 undef = u := ⟨_, rfl⟩
      obtain ⟨u48, e48⟩ : ∃ u, aq.tmps.getD 48 undef = u := ⟨_, rfl⟩
      obtain ⟨u49, e49⟩ : ∃ u, aq.tmps.getD 49 undef = u := ⟨_, rfl⟩
      have e50 : aq.tmps.getD 50 undef = Value.bool true := hslots 50 (by kernel_rfl)
      obtain ⟨u51, e51⟩ : ∃ u, aq.tmps.getD 51 undef = u := ⟨_, rfl⟩
      obtain ⟨u52, e52⟩ : ∃ u, aq.tmps.getD 52 undef = u := ⟨_, rfl⟩
      obtain ⟨u53, e53⟩ : ∃ u, aq.tmps.getD 53 undef = u := ⟨_, rfl⟩
      obtain ⟨u54, e54⟩ : ∃ u, aq.tmps.getD 54 undef = u := ⟨_, rfl⟩
      obtain ⟨N55, ga55, gb55, e55, b55, c55, d55⟩ : ∃ N g1 g2, aq.tmps.getD 55 undef = .slice (some ⟨N, 0, none⟩) 2 2 ∧ Blk wq N 22 [.slice (some ⟨g1, 0, none⟩) 32 32, .slice (some ⟨g2, 0, none⟩) 32 32] ∧ (Blk wq g1 57 (p.map u8N) ∧ Blk wq g2 57 (p.map u8N)) ∧ (g1 ≠ g2 ∧ g1 ≠ N ∧ g2 ≠ N ∧ w6.heap.size ≤ g1 ∧ w6.heap.size ≤ g2) := hslots 55 (by kernel_rfl)
      obtain rfl := Fg.frame_is (a := aq) (vs := [Value.slice a 32 c, undef, Value.bool false, Value.slice (some ⟨gx, 0, none⟩) 32 44, Value.pointer (some ⟨N4, 0, none⟩), Value.bool true, Value.pointer (some ⟨N6, 0, none⟩), Value.bool true, Value.slice a 32 c, Value.int .i64 32, Value.bool false, undef, Value.slice a 32 c, Value.slice (some ⟨gx, 0, none⟩) 32 44, Value.tuple #[r.v, Value.bool true], Value.slice (some ⟨gx, 0, none⟩) 32 44, Value.tuple #[r.v, Value.bool true], r.v, Value.bool true, Value.tuple #[nV v, Value.bool true], Value.slice a 32 c, Value.tuple #[nV v, Value.bool true], nV v, Value.bool true, Value.bool true, Value.bool true, Value.bool false, Value.bool false, Value.slice (some ⟨gx, 0, none⟩) 32 44, Value.slice a 32 c, Value.bool true, Value.bool false, Value.bool false, Value.bool true, Value.bool false, undef, undef, undef, undef, undef, undef, u41, u42, u43, u44, u45, u46, u47, u48, u49, Value.bool true, u51, u52, u53, u54, Value.slice (some ⟨N55, 0, none⟩) 2 2, undef, undef, undef, undef, undef]) hsz ⟨hrest 0 (by kernel_rfl), hrest 1 (by kernel_rfl), hrest 2 (by kernel_rfl), hrest 3 (by kernel_rfl), hrest 4 (by kernel_rfl), hrest 5 (by kernel_rfl), hrest 6 (by kernel_rfl), hrest 7 (by kernel_rfl), hrest 8 (by kernel_rfl), hrest 9 (by kernel_rfl), hrest 10 (by kernel_rfl), hrest 11 (by kernel_rfl), hrest 12 (by kernel_rfl), hrest 13 (by kernel_rfl), hrest 14 (by kernel_rfl), hrest 15 (by kernel_rfl), hrest 16 (by kernel_rfl), hrest 17 (by kernel_rfl), hrest 18 (by kernel_rfl), hrest 19 (by kernel_rfl), hrest 20 (by kernel_rfl), hrest 21 (by kernel_rfl), hrest 22 (by kernel_rfl), hrest 23 (by kernel_rfl), hrest 24 (by kernel_rfl), hrest 25 (by kernel_rfl), hrest 26 (by kernel_rfl), hrest 27 (by kernel_rfl), hrest 28 (by kernel_rfl), hrest 29 (by kernel_rfl), hrest 30 (by kernel_rfl), hrest 31 (by kernel_rfl), hrest 32 (by kernel_rfl), hrest 33 (by kernel_rfl), hrest 34 (by kernel_rfl), hrest 35 (by kernel_rfl), hrest 36 (by kernel_rfl), hrest 37 (by kernel_rfl), hrest 38 (by kernel_rfl), hrest 39 (by kernel_rfl), hrest 40 (by kernel_rfl), e41, e42, e43, e44, e45, e46, e47, e48, e49, e50, e51, e52, e53, e54, e55, hrest 56 (by kernel_rfl), hrest 57 (by kernel_rfl), hrest 58 (by kernel_rfl), hrest 59 (by kernel_rfl), hrest 60 (by kernel_rfl), trivial⟩ hdf
      clear hsz hdf hrest hslots hpt e41 e42 e43 e44 e45 e46 e47 e48 e49 e50 e51 e52 e53 e54 e55
      have K7 := Lib.hid (gb_trans K6.out.1 hB)
      have z6 := (gb_trans K1.out.1 K6.out.1).size
      have hAp := apart2T HF.out w wq ga55 gb55 N55 32 32 57 57 (p.map u8N) (p.map u8N) (gb_trans K1.out.1 K7.out) b55 c55.1 c55.2 (by rw [List.length_map]; exact hl32) (by rw [List.length_map]; exact hl32) d55.1 d55.2.1 d55.2.2.1 ⟨by decide, by decide⟩ (by have := d55.2.2.2.1; omega) (by have := d55.2.2.2.2; omega)
      have HAp := Lib.hid hAp
      clear hAp b55 c55 d55 hB z6 K6
      go_wp2_with fail
      refine HAp.out.mono ?_
      rintro e w7 ⟨rfl, hg7⟩
      have K8 := Lib.hid hg7; clear hg7
      go_wp2_with fail
      refine (awake_any w7 (H.out.1.grown K8.out)).mono ?_
      rintro e w8 ⟨rfl, hg8⟩
      have K9 := Lib.hid (gb_trans K8.out hg8); clear hg8
      go_wp2
      go_ret
      exact ⟨rfl, K9.out⟩
theorem gets_any {f : Nat → Nat → Nat} (hf : Marks f) (n c B : Nat) (a : Option Addr) (p : List Nat) (w : World) (hT : FTab w) (h1 : p.length = n) (hP : BytesAt w B a c p) :
    Calls Tryz.prog 3 #[.slice a n c] w fun e w' => e = .returned (.bool true) ∧ w.grownBy w' none := by
  rcases Nat.lt_or_ge 100 n with h | h
  · exact gets_great n c a w hT h
  · exact gets_small hf n c B a p w hT h h1 hP
end Nr
end
section
open Go.RowKit Ns Ow
namespace Nn
def Bb (w : World) (g : Nat) : Prop := ∃ p : List Nat, p.length = 32 ∧ (∀ i, p.getD i 0 < 256) ∧ Blk w g 5 (p.map u8N)
theorem Bb.stay {w w' : World} {g : Nat} (h : Bb w g) (hg : w.grownBy w' none) : Bb w' g := h.elim fun p h => ⟨p, h.1, h.2.1, h.2.2.grown hg (by simp)⟩
theorem Bb.set {w : World} {g : Nat} (h : Bb w g) (i x : Nat) (hx : x < 256) : Bb (w.setCell ⟨g, i, none⟩ (u8N x)) g := by
 obtain ⟨p, h1, h2, h3⟩ := h
 refine ⟨p.set i x, by rw [List.length_set]; exact h1, fun j => ?_, ?_⟩
 ·rcases Nat.lt_or_ge i p.length with hi | hi
  ·rw [set_getD p i j x hi]
   split
   ·exact hx
   ·exact h2 j
  ·rw [List.set_eq_of_length_le hi]; exact h2 j
 ·have := h3.set i (u8N x)
  rwa [← List.map_set] at this
theorem Bb.other {w : World} {g : Nat} (h : Bb w g) {a : Addr} (ha : a.block ≠ g) (v : Value) : Bb (w.setCell a v) g := h.elim fun p h => ⟨p, h.1, h.2.1, h.2.2.other ha v⟩
theorem Bb.cell {w : World} {g : Nat} (h : Bb w g) (i : Nat) (hi : i < 32) : ∃ v, w.cell? ⟨g, i, none⟩ = some v := by
 obtain ⟨p, h1, _, h3⟩ := h
 exact ⟨_, h3.cell (i := i) (List.getElem?_eq_getElem (by rw [List.length_map]; omega))⟩
theorem Bb.free {w : World} {g : Nat} (h : Bb w g) (i : Nat) : w.frozen? ⟨g, i, none⟩ = false := h.elim fun _ h => h.2.2.free i
theorem Bb.lt {w : World} {g : Nat} (h : Bb w g) : g < w.heap.size := h.elim fun _ h => h.2.2.lt
theorem Bb.at {w : World} {g : Nat} (h : Bb w g) : ∃ p : List Nat, p.length = 32 ∧ BytesAt w w.heap.size (some ⟨g, 0, none⟩) 32 p := by
 obtain ⟨p, h1, h2, h3⟩ := h
 exact ⟨p, h1, blk_bytes (n := 32) (tl := []) (by rw [List.append_nil]; exact h3) h1 (Nat.le_refl _) (by decide) h2 h3.lt (Nat.le_refl _)⟩
set_option maxRecDepth 100000 in
set_option maxHeartbeats 1000000 in
theorem edge_any (n : Int) (w : World) (h0 : -20 ≤ n) (h1 : n < 19) : Calls Tryz.prog 17 #[.int .i64 n] w fun e w' => ∃ g, e = .returned (.slice (some ⟨g, 0, none⟩) 32 32) ∧ w.grownBy w' none ∧ w.heap.size ≤ g ∧ Bb w' g := by
 obtain ⟨w1, hmk, hg1, hs1, hb1⟩ := make_bytes 32 32 w (Nat.le_refl _) (by decide)
 have hB1 : Bb w1 w.heap.size := ⟨List.replicate 32 0, by simp, fun i => by
  rw [List.getD_eq_getElem?_getD, List.getElem?_replicate]
  split <;> decide, by rw [List.map_replicate]; exact hb1⟩
 have H1 := Lib.hid (And.intro hg1 hB1); clear hg1 hB1 hs1 hb1
 have hmk : (Instr.makeSlice 22 (.int .i64 32) (.int .i64 32)).run Tryz.prog w = .ok (.slice (some ⟨w.heap.size, 0, none⟩) 32 32) w1 := hmk
 obtain ⟨x, hx, hxe⟩ : ∃ x : Nat, x < 256 ∧ 237 + n = (x : Int) := ⟨(237 + n).toNat, by omega, by omega⟩
 go_enter Tryz.func17, Tryz.ntmps17
 go_wp2
 go_loopw [4] (fun i wr => ∃ k : Nat, k ≤ 32 ∧ i = .int .i64 k ∧ w.grownBy wr none ∧ Bb wr w.heap.size) (fun i _ => 32 - (intOf i).toNat)
 case atStart => exact ⟨0, by omega, rfl, H1.out.1, H1.out.2⟩
 case round =>
  obtain ⟨k, hk, rfl, hg, hb⟩ := hrel
  by_cases hlt : k < 32
  ·have i0 : (k : Int) < 32 := by omega
   obtain ⟨v0, c0⟩ := hb.cell k hlt
   have f0 := hb.free k
   have HI := Lib.hid (And.intro (gb_set_new hg (p := ⟨w.heap.size, k, none⟩) (Nat.le_refl _) (u8N 255)) (hb.set k 255 (by decide))); clear hg hb
   go_wp2
   go_roundw
   case rel => exact ⟨k + 1, by omega, by go_num, HI.out.1, HI.out.2⟩
   case measure => simp [intOf]; omega
  ·obtain rfl : k = 32 := by omega
   obtain ⟨v0, c0⟩ := hb.cell 0 (by decide)
   have f0 := hb.free 0
   have hb2 := hb.set 0 x hx
   have hg2 := gb_set_new hg (p := ⟨w.heap.size, 0, none⟩) (Nat.le_refl _) (u8N x)
   unfold u8N at hb2 hg2
   rw [← hxe] at hb2 hg2
   obtain ⟨v1, c1⟩ := hb2.cell 31 (by decide)
   have f1 := hb2.free 31
   have HI := Lib.hid (And.intro (gb_set_new hg2 (p := ⟨w.heap.size, 31, none⟩) (Nat.le_refl _) (u8N 127)) (hb2.set 31 127 (by decide))); clear hg hb hb2 hg2 hxe hx
   go_wp2
   go_ret
   exact ⟨_, rfl, HI.out.1, Nat.le_refl _, HI.out.2⟩
theorem small_any (n : Int) (w : World) : Calls Tryz.prog 18 #[.int .u64 n] w fun e w' => e = .returned (Fe.mk n 0 0 0 0).v ∧ w.grownBy w' none := by
 go_enter Tryz.func18, Tryz.ntmps18
 go_wp2
 refine bodyPost_ret (v := .agg #[.int .u64 n, .int .u64 0, .int .u64 0, .int .u64 0, .int .u64 0]) ?_ rfl ⟨rfl, gb_alloc (gb_refl _ _) _⟩
 simp [results, Tryz.results18, go_sem]
def OwnE (w : World) (base : Nat) (v : Value) (L : List Fe) : Prop := w.ownsRow base 27 5 v L.length (fesL L)
theorem feL_at (a : Fe) (j : Nat) (hj : j < 5) : (feL a)[j]? = some (.int .u64 (a.at j)) := by
 obtain rfl | rfl | rfl | rfl | rfl : j = 0 ∨ j = 1 ∨ j = 2 ∨ j = 3 ∨ j = 4 := by omega
 all_goals rfl
theorem own_range {w : World} {base g n c : Nat} {L : List Fe} (hn : L.length = n) (h : OwnE w base (.slice (some ⟨g, 0, none⟩) n c) L) (i : Nat) (hi : i < n) : w.rangeAt g (i * 5) (feL (L.getD i Fe.zeroF)) := fun j v hv => by
 have hj : j < 5 := (List.getElem?_eq_some_iff.1 hv).1
 have h1 := fesL_get L i j (by omega) hj
 rw [feL_at _ j hj] at hv
 have h2 := World.ownsRow.cells (show w.ownsRow base 27 5 (.slice (some ⟨g, 0, none⟩) L.length c) L.length (fesL L) by subst hn; exact h) (g := g) rfl _ _ h1
 rw [Addr.add_lit, Nat.zero_add] at h2
 rw [Nat.mul_comm i 5, h2]
 exact hv
theorem info_elemz : ∃ i, Tryz.prog.info? 27 = some i ∧ i.zero = some Fe.zeroF.v ∧ i.size = 5 ∧ i.bytes = 40 := by
 have h : (Tryz.prog.info? 27).map (fun i => (i.zero, i.size, i.bytes)) = some (some Fe.zeroF.v, 5, 40) := by kernel_rfl
 cases hi : Tryz.prog.info? 27 with
 | none => rw [hi] at h; cases h
 | some i =>
  rw [hi] at h
  simp only [Option.map_some, Option.some.injEq, Prod.mk.injEq] at h
  exact ⟨i, rfl, h.1, h.2.1, h.2.2⟩
theorem append_two (w : World) (base N : Nat) (v : Value) (L : List Fe) (a b : Fe) (ho : OwnE w base v L) (hN : Blk w N 27 (feL a ++ feL b)) (hl : L.length ≤ 1000) (hb : base ≤ w.heap.size) :
  ∃ v' w', (Builtin.append_ #[41, 41] 41 #[v, .slice (some ⟨N, 0, none⟩) 2 2]).run Tryz.prog w = .ok v' w' ∧ OwnE w' base v' (L ++ [a, b]) ∧ w.grownBy w' v.ownBlock := by
 obtain ⟨i, hi, hz, hs, hby⟩ := info_elemz
 obtain ⟨v', w', hr, ho', hg, _⟩ := run_append_own (P := Tryz.prog) w base 41 41 27 i Fe.zeroF.v 5 40 Tryz.underlying41 hi hz hs hby rfl (by decide) v L.length (fesL L) ho ⟨N, 0, none⟩ 2 2 (feL a ++ feL b) rfl
  (fun j u hu => by rw [Addr.add_lit, Nat.zero_add]; exact hN.cell hu) (fun u hu => by
   rcases List.mem_append.1 hu with h | h
   ·exact List.all_eq_true.1 (feL_one a) u h
   ·exact List.all_eq_true.1 (feL_one b) u h) (by unfold maxLen; omega) (by omega) hb
 refine ⟨v', w', hr, ?_, hg⟩
 unfold OwnE
 have e : fesL (L ++ [a, b]) = fesL L ++ (feL a ++ feL b) := by simp [fesL]
 rw [e, List.length_append]
 exact ho'
theorem gb_ownE {w0 w w' : World} {base : Nat} {v : Value} {L : List Fe} (h : w0.grownBy w none) (ho : OwnE w base v L) (hb : w0.heap.size ≤ base) (hg : w.grownBy w' v.ownBlock) : w0.grownBy w' none :=
 ⟨hg.os.trans h.os, hg.tape.trans h.tape, hg.output.trans h.output, Nat.le_trans h.size hg.size, fun k hk _ => (hg.block k (Nat.lt_of_lt_of_le hk h.size) (fun e => by have := (ho.lt k e.symm).1; omega)).trans (h.block k hk (by simp))⟩
theorem own_sliceE {w : World} {base : Nat} {v : Value} {L : List Fe} (h : OwnE w base v L) (h0 : 0 < L.length) : ∃ g c, v = .slice (some ⟨g, 0, none⟩) L.length c := by
 rcases h.2 with ⟨_, h⟩ | ⟨g, c, _, hv, _⟩
 ·omega
 ·exact ⟨g, c, hv⟩
end Nn
end
section
open Go.RowKit
namespace Ow
theorem wpList_append_runG {P : Program} {w : World} {ops : Array Oper} {rest : List Oper} {o : Oper} {a : Act} {Q : Exit → Act → World → Prop} (hw : Region.wanted o (yielded ops a.tmps) = true) (s x : Operand) (t : TypeId)
  (ho : o.op = .call { callee := .builtin .append, args := #[s, x], argTypes := #[t, t] }) (ht : o.type = t) (v y : Value) (hs : a.eval s = v) (hx : a.eval x = y) (v' : Value) (w' : World)
  (hr : (Builtin.append_ #[t, t] t #[v, y]).run P w = .ok v' w') (h : wpList P ops Q rest (a.put o.dst v') w') : wpList P ops Q (o :: rest) a w := by
 refine wpList_step fun K hK => ?_
 rw [if_pos hw]
 rw [← ht] at hr
 unfold Oper.wp
 simp [execOp, ho, resolve, invoke, builtin, hs, hx, ← ht, hr, Result.andThen]
 exact hK _ _ h
end Ow
end
end Go.Proofs.YtcmnecnbcohaeaaGreatDoor
