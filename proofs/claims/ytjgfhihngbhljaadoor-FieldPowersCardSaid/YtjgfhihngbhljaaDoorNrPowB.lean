/- The law FieldPowers' walk, upon XNrPowA. -/
import Derived.Test.YtjgfhihngbhljaaDoorNrPowA
namespace Go.Proofs.YtjgfhihngbhljaaDoor
open Go.RowKit Ns Ow
namespace Fg
theorem region_p {P : Program} {ops : Array Oper} {Q : Exit → Act → World → Prop} {a0 : Act} {id : Nat} {w : World} (ps : List Nat) (L : List It) (W0 : World) (k : Nat) (hB0 : W0.grownBy w none) (_hm : P.follows .mixedOrders = true) (ht : topo ops = true) (ho : once (ops.extract 0 k) a0.tmps.size = true) (_htl : 0 = 0) (hk : k ≤ ops.size)
    (hu : (ps.all fun s => match a0.tmps.getD s undef with | .pointer _ => false | _ => true) = true)
    (steps : StepsS k ps P Q L (fun w => W0.grownBy w none) a0 ops 0 (ops.toList.take k))
    (fin : ∀ a w', W0.grownBy w' none → a.tmps.size = a0.tmps.size → a.defers = a0.defers → (∀ d, isDstTo ops k d = false → a.tmps.getD d undef = a0.tmps.getD d undef) →
      (∀ d, isDstTo ops k d = true → its L d (a.tmps.getD d undef) w') → PtrsApart ps a w' → wpList P ops Q (ops.toList.drop k) a w') : (Code.region id ops false).wp P Q a0 w :=
  wp_region_plain L (fun w => W0.grownBy w none) k hB0 ht ho hk (ptrs_undef hu) steps fin
end Fg
namespace Nr
theorem stE {ρ : Operand → Value} {o : Oper} {w : World} {x y : Operand} {B : Nat} {a : Fe} {L : List Value} (ho : o.op = .store 24 x y) (hx : ρ x = .pointer (some ⟨B, 0, none⟩)) (hy : ρ y = a.v) (h : Blk w B 24 L) (hL : L.length = 5) : (execOp ρ o).run Tryd.prog w = .ok .skip (w.setCells B 0 (feL a)) :=
  Fg.run_store ho hx hy (h.there 0 5 (by rw [hL]; decide)) info_elem5 rfl
theorem storedE {w : World} {B : Nat} {a : Fe} {L : List Value} (h : Blk w B 24 L) (hL : L.length = 5) : Blk (w.setCells B 0 (feL a)) B 24 (feL a) := h.setAll (by rw [hL]; rfl)
theorem c_inv (a : Fe) (w : World) (h : a.Ok) : Calls Tryd.prog 24 #[a.v] w fun e w' => e = .returned (invF a).v ∧ w.grownBy w' none := feOut_and (Go.Proofs.YtjgfhihngbhljaaDoor.invert_any a w h)
theorem c_root (a b : Fe) (w : World) (hT : FTab w) (ha : a.Ok) (hb : b.Ok) : Calls Tryd.prog 25 #[a.v, b.v] w fun e w' => e = .returned (.tuple #[(rootF a b).1.v, .bool (rootF a b).2]) ∧ w.grownBy w' none :=
  (root_all a b w hT ha hb).mono fun _ _ ⟨r, hr, he, hg⟩ => ⟨by rw [he, hr.out]; rfl, hg⟩
theorem c_rroot (a b : Fe) (w : World) : Calls Tryd.prog 26 #[nV (num a.m), nV (num b.m)] w (Out2 (refRoot (num a.m) (num b.m)) w) := root_walk (num a.m) (num b.m) w (num_whole _) (num_whole _) (num_len _) (num_len _)
theorem c_rinv (a : Fe) (w : World) : Calls Tryd.prog 27 #[nV (num a.m)] w (Out (rU (num a.m)) w) := invert_any (num a.m) w (num_whole _) (num_len _)
theorem rU_is (a : Fe) : rU (num a.m) = num (a.m ^ Fe.eInv) := by
  unfold rU
  rw [exp_inv, num_iff, V_num, ← Nat.pow_mod]
theorem is_inv {a : Fe} (w : World) (ha : a.Right) : Calls Tryd.prog 15 #[(invF a).v, nV (rU (num a.m))] w fun e w' => e = .returned (.bool true) ∧ w.grownBy w' none := by
  rw [rU_is]
  exact c_is (invF a) (a.m ^ Fe.eInv) w (inv_right a) (inv_pw ha).mi
theorem rootF_right {a b : Fe} (hb : b.Right) : (rootF a b).1.Right := by
  cases h : (rootF a b).2 with
  | true => exact (root_says hb h).1
  | false => rw [root_not h]; exact zero_right
theorem is_root {a b : Fe} (w : World) (ha : a.Right) (hb : b.Right) (h : (rootF a b).2 = true) : Calls Tryd.prog 15 #[(rootF a b).1.v, nV (refRoot (num a.m) (num b.m)).1] w fun e w' => e = .returned (.bool true) ∧ w.grownBy w' none := by
  rw [(root_same ha hb).2 h]
  exact c_is _ _ w (rootF_right hb) (Nat.mod_eq_of_lt (m_lt _)).symm
theorem varE (w : World) (a : Fe) : Blk ((w.alloc (.cells (feL Fe.zeroF).toArray 24)).setCells w.heap.size 0 (feL a)) w.heap.size 24 (feL a) ∧ w.grownBy ((w.alloc (.cells (feL Fe.zeroF).toArray 24)).setCells w.heap.size 0 (feL a)) none ∧ w.heap.size < ((w.alloc (.cells (feL Fe.zeroF).toArray 24)).setCells w.heap.size 0 (feL a)).heap.size := by
  have h := storedE (a := a) (Blk.new w (feL Fe.zeroF) 24) rfl
  exact ⟨h, gb_setCells_new (gb_alloc (gb_refl w none) _) (Nat.le_refl _) 0, h.lt⟩
theorem rEnd_len (W : List Nat) (y : Nat) : (rEnd W (num y)).1.length = 16 := by
  unfold rEnd
  by_cases h : sqL (num y) = W
  · rw [if_pos h]
    dsimp only
    by_cases ho : V (num y) % 2 = 1
    · rw [if_pos ho]; exact num_len _
    · rw [if_neg ho]; exact num_len _
  · rw [if_neg h]; exact List.length_replicate
theorem refRoot_len (a b : List Nat) : (refRoot a b).1.length = 16 := by
  unfold refRoot
  by_cases h1 : a = zeros
  · rw [if_pos h1]; exact List.length_replicate
  rw [if_neg h1]
  by_cases h2 : b = zeros
  · rw [if_pos h2]; exact List.length_replicate
  rw [if_neg h2]
  unfold rGo
  obtain ⟨y, hy⟩ : ∃ y, rR (rW a b) = num y := ⟨_, rfl⟩
  obtain ⟨z, hz⟩ : ∃ z, rR1 (num y) = num z := ⟨_, rfl⟩
  rw [hy, hz]
  by_cases h3 : sqL (num y) = rW a b
  · rw [if_pos h3]; exact rEnd_len _ _
  · rw [if_neg h3]; exact rEnd_len _ _
/-- what the roots of two tell -/
structure Roots (a b r : Fe) (o : Bool) (s : List Nat) : Prop where
  ri : r.Right
  len : s.length = 16
  fr : ∀ w, FTab w → Calls Tryd.prog 25 #[a.v, b.v] w fun e w' => e = .returned (.tuple #[r.v, .bool o]) ∧ w.grownBy w' none
  rr : ∀ w, Calls Tryd.prog 26 #[nV (num a.m), nV (num b.m)] w fun e w' => e = .returned (.tuple #[nV s, .bool o]) ∧ w.grownBy w' none
  yes : o = true → ∀ w, Calls Tryd.prog 15 #[r.v, nV s] w fun e w' => e = .returned (.bool true) ∧ w.grownBy w' none
  no : o = false → r = Fe.zeroF
theorem roots_of {a b : Fe} (ha : a.Right) (hb : b.Right) : ∃ r o s, Roots a b r o s :=
  ⟨(rootF a b).1, (rootF a b).2, (refRoot (num a.m) (num b.m)).1, rootF_right hb, refRoot_len _ _, fun w hT => c_root a b w hT ha.ok hb.ok,
    fun w => by rw [← (root_same ha hb).1]; exact c_rroot a b w, fun h w => is_root w ha hb h, fun h => root_not h⟩
theorem run_neE0 {ρ : Operand → Value} {o : Oper} {w : World} {x y : Operand} {t : TypeId} (ho : o.op = .binOp .neq 24 x y t) (hx : ρ x = Fe.zeroF.v) (hy : ρ y = Fe.zeroF.v) : (execOp ρ o).run Tryd.prog w = .ok (.value (.bool false)) w := by
  obtain ⟨j, hj⟩ : ∃ i, Tryd.prog.info? 22 = some i := by
    cases h : Tryd.prog.info? 22 with
    | none => exact absurd h (by have : (Tryd.prog.info? 22).isSome = true := by kernel_rfl
                                 intro e; rw [e] at this; cases this)
    | some i => exact ⟨i, rfl⟩
  have hc : Tryd.prog.cellsOf 22 = 1 := by kernel_rfl
  have hg : ∀ i ∈ List.range 5, (#[Value.int .u64 0, .int .u64 0, .int .u64 0, .int .u64 0, .int .u64 0] : Array Value)[i * 1]? = some (.int .u64 ((fun _ => (0 : Int)) i)) := fun i hi => by
    have := List.mem_range.1 hi
    rcases i with _ | _ | _ | _ | _ | i <;> first | rfl | omega
  have h1 : (Op.equalIn 10000 24 (.agg #[.int .u64 0, .int .u64 0, .int .u64 0, .int .u64 0, .int .u64 0]) (.agg #[.int .u64 0, .int .u64 0, .int .u64 0, .int .u64 0, .int .u64 0])).run Tryd.prog w = .ok true w := by
    rw [run_equalIn_array w 9999 _ _ Tryd.underlying24 hj, hc, n_eqItems w 9998 (by kernel_rfl) Tryd.underlying22 (fun _ => 0) (fun _ => 0) _ _ _ hg hg]
    rfl
  have hgd : Tryd.prog.eqGuardType Tryd.prog.depth 24 = false := by kernel_rfl
  have g : (eqGuard .neq 24 x y (.agg #[.int .u64 0, .int .u64 0, .int .u64 0, .int .u64 0, .int .u64 0]) (.agg #[.int .u64 0, .int .u64 0, .int .u64 0, .int .u64 0, .int .u64 0])).run Tryd.prog w = .ok () w := by
    unfold eqGuard
    simp [hgd]
  unfold execOp
  simp only [ho, hx, hy, Fe.zeroF, Fe.v, Sem.run_bind, g, Result.andThen_ok, run_neq_struct, h1, Sem.run_pure]
  rfl
section
variable {ops : Array Oper} {Q : Exit → Act → World → Prop} {a0 : Act} {w2 : World} {N5 N6 N7 N9 N11 : Nat} {x y s s2 : List Nat} {r2 q b : Fe} {ok2 : Bool}
def gv (q b : Fe) (s2 : List Nat) (ok2 : Bool) : Nat → Value := fun d => if d = 74 then q.v else if d = 75 then nV (num q.m) else if d = 76 then nV (num b.m) else if d = 77 then .tuple #[nV s2, .bool ok2] else if d = 73 then .tuple #[nV s2, .bool ok2] else if d = 78 then nV s2 else .bool ok2
def B12 (w2 : World) (N5 N6 N7 N9 N11 : Nat) (x y s s2 : List Nat) (r2 q : Fe) (ls : Array Bool) (w : World) : Prop :=
  w2.grownBy w none ∧ Blk w N5 33 (pL x) ∧ Blk w N6 33 (pL y) ∧ Blk w N7 24 (feL r2) ∧ Blk w N11 24 (feL q) ∧ Blk w N9 33 (pL (if ls.getD 7 false = true then s2 else s))
theorem ls_other {ls : Array Bool} {i : Nat} (h : i ≠ 7) : (ls.setIfInBounds i true).getD 7 false = ls.getD 7 false := by
  simp [Array.getD_eq_getD_getElem?, h]
theorem ls_this {ls : Array Bool} (h : 7 < ls.size) : (ls.setIfInBounds 7 true).getD 7 false = true := by
  simp [Array.getD_eq_getD_getElem?, h]
theorem B12.grow {ls : Array Bool} {w w' : World} {i : Nat} (h : B12 w2 N5 N6 N7 N9 N11 x y s s2 r2 q ls w) (g : w.grownBy w' none) (hi : i ≠ 7) : B12 w2 N5 N6 N7 N9 N11 x y s s2 r2 q (ls.setIfInBounds i true) w' := by
  unfold B12 at *
  rw [ls_other hi]
  exact ⟨gb_trans h.1 g, h.2.1.grown g (by simp), h.2.2.1.grown g (by simp), h.2.2.2.1.grown g (by simp), h.2.2.2.2.1.grown g (by simp), h.2.2.2.2.2.grown g (by simp)⟩
theorem v12 {i d : Nat} {o : Oper} (hd : o.dst = some d) (hi : i ≠ 7) (hw : o.guard = none)
    (h : ∀ ls a w, FlowAtP (fun d u _ => u = gv q b s2 ok2 d) (fun _ => 0) (fun _ _ _ => True) (B12 w2 N5 N6 N7 N9 N11 x y s s2 r2 q) [] a0 ops ls i o a w → (execOp a.eval o).run Tryd.prog w = .ok (.value (gv q b s2 ok2 d)) w) :
    FlowStepP Tryd.prog Q (fun d u _ => u = gv q b s2 ok2 d) (fun _ => 0) (fun _ _ _ => True) (B12 w2 N5 N6 N7 N9 N11 x y s s2 r2 q) [] a0 ops i o :=
  flowP_value hd fun ls a w hF => ⟨wants_none hw, _, w, h ls a w hF, hF.base.grow (gb_refl w none) hi, fun _ _ h => h, fun _ _ h => h, ptrs_put hF.ptrs (Nat.le_refl _) (fun s hs => by cases hs), rfl⟩
theorem c12 {i d : Nat} {o : Oper} (hd : o.dst = some d) (hi : i ≠ 7) (hw : o.guard = none) (f : FuncId) (args : Array Value)
    (h : ∀ ls a w, FlowAtP (fun d u _ => u = gv q b s2 ok2 d) (fun _ => 0) (fun _ _ _ => True) (B12 w2 N5 N6 N7 N9 N11 x y s s2 r2 q) [] a0 ops ls i o a w → (execOp a.eval o).run Tryd.prog w = .ok (.enter f args) w ∧ Calls Tryd.prog f args w fun e w' => e = .returned (gv q b s2 ok2 d) ∧ w.grownBy w' none) :
    FlowStepP Tryd.prog Q (fun d u _ => u = gv q b s2 ok2 d) (fun _ => 0) (fun _ _ _ => True) (B12 w2 N5 N6 N7 N9 N11 x y s s2 r2 q) [] a0 ops i o :=
  flowP_call hd fun ls a w hF => ⟨wants_none hw, f, args, (h ls a w hF).1, (h ls a w hF).2.mono fun e w' ⟨he, hg⟩ => ⟨_, he, hF.base.grow hg hi, fun _ _ h => h, fun _ _ h => h, ptrs_put hF.ptrs hg.size (fun s hs => by cases hs), rfl⟩⟩
end
set_option maxRecDepth 100000 in
set_option maxHeartbeats 8000000 in
theorem powers_any (a b : Fe) (w0 : World) (hT : FTab w0) (ha : a.Ok) (hb : b.Ok) : Calls Tryd.prog 4 #[a.v, b.v] w0 fun e w' => e = .returned (.bool true) ∧ w0.grownBy w' none := by
  have HT := Lib.hid hT; clear hT
  have HO := Lib.hid (And.intro ha hb); clear ha hb
  have hra := Nr.rB_right HO.out.1
  have hrb := Nr.rB_right HO.out.2
  have cra := fun w => Nr.c_right a w HO.out.1
  have crb := fun w => Nr.c_right b w HO.out.2
  obtain ⟨ra, hrae⟩ : ∃ r, r = Nr.rB a := ⟨_, rfl⟩
  obtain ⟨rb, hrbe⟩ : ∃ r, r = Nr.rB b := ⟨_, rfl⟩
  rw [← hrae] at hra cra
  rw [← hrbe] at hrb crb
  clear hrae hrbe
  have HR := Lib.hid (And.intro hra (And.intro hrb (And.intro cra crb))); clear hra hrb cra crb
  unfold Fe.v
  go_enter Tryd.func4, Tryd.ntmps4
  go_upto_region 1 with (fail)
  show Code.wp _ _ _ _ ((w0.alloc (.cells (feL a).toArray 24)).alloc (.cells (feL b).toArray 24))
  have b1 := (Blk.new w0 (feL a) 24).alloc (.cells (feL b).toArray 24)
  have b2 := blk_at (w0.alloc (.cells (feL a).toArray 24)) (B := w0.heap.size + 1) (feL b) 24 (by simp)
  have g2 := gb_alloc (gb_alloc (gb_refl w0 none) (.cells (feL a).toArray 24)) (.cells (feL b).toArray 24)
  revert g2; revert b2; revert b1
  generalize (w0.alloc (.cells (feL a).toArray 24)).alloc (.cells (feL b).toArray 24) = w2
  intro b1 b2 g2
  have H2 := Lib.hid (And.intro g2 (And.intro b1 b2)); clear g2 b1 b2
  have qa : ∀ w, w2.grownBy w none → Blk w w0.heap.size 24 (feL a) := fun w h => H2.out.2.1.grown h (by simp)
  have qb : ∀ w, w2.grownBy w none → Blk w (w0.heap.size + 1) 24 (feL b) := fun w h => H2.out.2.2.grown h (by simp)
  have HB := Lib.hid (And.intro qa qb); clear qa qb
  have p0 := H2.out.2.1.cell (i := 0) rfl
  have p1 := H2.out.2.1.cell (i := 1) rfl
  have p2 := H2.out.2.1.cell (i := 2) rfl
  have p3 := H2.out.2.1.cell (i := 3) rfl
  have p4 := H2.out.2.1.cell (i := 4) rfl
  go_wp2_with fail
  refine (HR.out.2.2.1 w2).mono ?_
  rintro e w3 ⟨rfl, hg3⟩
  have H3 := Lib.hid hg3; clear hg3 p0 p1 p2 p3 p4
  have r0 := (HB.out.2 w3 H3.out).cell (i := 0) rfl
  have r1 := (HB.out.2 w3 H3.out).cell (i := 1) rfl
  have r2 := (HB.out.2 w3 H3.out).cell (i := 2) rfl
  have r3 := (HB.out.2 w3 H3.out).cell (i := 3) rfl
  have r4 := (HB.out.2 w3 H3.out).cell (i := 4) rfl
  cases ra with
  | false =>
    clear r0 r1 r2 r3 r4
    go_upto_region 2 with (fail)
    refine wp_region_lit ?_
    refine Fg.wpl_value (v := a.v) (w' := w3) rfl (ldE rfl rfl (HB.out.1 _ H3.out)) ?_
    simp only [Act.put, List.setIfInBounds_toArray, List.set_cons_succ, List.set_cons_zero]
    refine Fg.wpl_call rfl (Fg.run_call (vs := #[a.v]) rfl rfl (by simp only [List.map_toArray, List.map_cons, List.map_nil, Act.eval] <;> rfl) (Fg.run_enter Tryd.func24 (by kernel_rfl) (by kernel_rfl))) ?_
    refine (c_inv a w3 HO.out.1).mono ?_
    rintro e w5 ⟨rfl, gw5⟩
    refine ⟨_, rfl, ?_⟩
    simp only [Act.put, List.setIfInBounds_toArray, List.set_cons_succ, List.set_cons_zero]
    refine wpList_nil ?_
    have H5 := Lib.hid (gb_trans H3.out gw5); clear gw5
    go_upto_region 3 with (fail)
    refine wp_region_lit ?_
    refine Fg.wpl_value (v := a.v) (w' := w5) rfl (ldE rfl rfl (HB.out.1 _ H5.out)) ?_
    simp only [Act.put, List.setIfInBounds_toArray, List.set_cons_succ, List.set_cons_zero]
    refine Fg.wpl_value (v := b.v) (w' := w5) rfl (ldE rfl rfl (HB.out.2 _ H5.out)) ?_
    simp only [Act.put, List.setIfInBounds_toArray, List.set_cons_succ, List.set_cons_zero]
    refine Fg.wpl_call rfl (Fg.run_call (vs := #[a.v, b.v]) rfl rfl (by simp only [List.map_toArray, List.map_cons, List.map_nil, Act.eval] <;> rfl) (Fg.run_enter Tryd.func25 (by kernel_rfl) (by kernel_rfl))) ?_
    refine (c_root a b w5 (HT.out.grown (gb_trans H2.out.1 H5.out)) HO.out.1 HO.out.2).mono ?_
    rintro e w6 ⟨rfl, gw6⟩
    refine ⟨_, rfl, ?_⟩
    simp only [Act.put, List.setIfInBounds_toArray, List.set_cons_succ, List.set_cons_zero]
    refine wpList_nil ?_
    have H6 := Lib.hid (gb_trans H5.out gw6); clear gw6
    go_upto_region 4 with (fail)
    refine wp_region_lit ?_
    refine Fg.wpl_call rfl (Fg.run_call (vs := #[]) rfl rfl (by simp only [List.map_toArray, List.map_nil]) (Fg.run_enter Tryd.func13 (by kernel_rfl) (by kernel_rfl))) ?_
    refine (awake_any w6 (HT.out.grown (gb_trans H2.out.1 H6.out))).mono ?_
    rintro e w7 ⟨rfl, gw7⟩
    refine ⟨_, rfl, ?_⟩
    simp only [Act.put, List.setIfInBounds_toArray, List.set_cons_succ, List.set_cons_zero]
    refine Fg.wpl_value (v := .bool true) (w' := w7) rfl (Fg.run_assign rfl rfl) ?_
    simp only [Act.put, List.setIfInBounds_toArray, List.set_cons_succ, List.set_cons_zero]
    refine wpList_nil ?_
    have H7 := Lib.hid (gb_trans (gb_trans H2.out.1 H6.out) gw7); clear gw7
    go_wp2
    go_ret
    exact ⟨rfl, H7.out⟩
  | true =>
    go_wp2_with fail
    refine (HR.out.2.2.2 w3).mono ?_
    rintro e w4 ⟨rfl, hg4⟩
    have H4 := Lib.hid (gb_trans H3.out hg4); clear hg4 r0 r1 r2 r3 r4
    cases rb with
    | false =>
      go_upto_region 2 with (fail)
      refine wp_region_lit ?_
      refine Fg.wpl_value (v := a.v) (w' := w4) rfl (ldE rfl rfl (HB.out.1 _ H4.out)) ?_
      simp only [Act.put, List.setIfInBounds_toArray, List.set_cons_succ, List.set_cons_zero]
      refine Fg.wpl_call rfl (Fg.run_call (vs := #[a.v]) rfl rfl (by simp only [List.map_toArray, List.map_cons, List.map_nil, Act.eval] <;> rfl) (Fg.run_enter Tryd.func24 (by kernel_rfl) (by kernel_rfl))) ?_
      refine (c_inv a w4 HO.out.1).mono ?_
      rintro e w5 ⟨rfl, gw5⟩
      refine ⟨_, rfl, ?_⟩
      simp only [Act.put, List.setIfInBounds_toArray, List.set_cons_succ, List.set_cons_zero]
      refine wpList_nil ?_
      have H5 := Lib.hid (gb_trans H4.out gw5); clear gw5
      go_upto_region 3 with (fail)
      refine wp_region_lit ?_
      refine Fg.wpl_value (v := a.v) (w' := w5) rfl (ldE rfl rfl (HB.out.1 _ H5.out)) ?_
      simp only [Act.put, List.setIfInBounds_toArray, List.set_cons_succ, List.set_cons_zero]
      refine Fg.wpl_value (v := b.v) (w' := w5) rfl (ldE rfl rfl (HB.out.2 _ H5.out)) ?_
      simp only [Act.put, List.setIfInBounds_toArray, List.set_cons_succ, List.set_cons_zero]
      refine Fg.wpl_call rfl (Fg.run_call (vs := #[a.v, b.v]) rfl rfl (by simp only [List.map_toArray, List.map_cons, List.map_nil, Act.eval] <;> rfl) (Fg.run_enter Tryd.func25 (by kernel_rfl) (by kernel_rfl))) ?_
      refine (c_root a b w5 (HT.out.grown (gb_trans H2.out.1 H5.out)) HO.out.1 HO.out.2).mono ?_
      rintro e w6 ⟨rfl, gw6⟩
      refine ⟨_, rfl, ?_⟩
      simp only [Act.put, List.setIfInBounds_toArray, List.set_cons_succ, List.set_cons_zero]
      refine wpList_nil ?_
      have H6 := Lib.hid (gb_trans H5.out gw6); clear gw6
      go_upto_region 4 with (fail)
      refine wp_region_lit ?_
      refine Fg.wpl_call rfl (Fg.run_call (vs := #[]) rfl rfl (by simp only [List.map_toArray, List.map_nil]) (Fg.run_enter Tryd.func13 (by kernel_rfl) (by kernel_rfl))) ?_
      refine (awake_any w6 (HT.out.grown (gb_trans H2.out.1 H6.out))).mono ?_
      rintro e w7 ⟨rfl, gw7⟩
      refine ⟨_, rfl, ?_⟩
      simp only [Act.put, List.setIfInBounds_toArray, List.set_cons_succ, List.set_cons_zero]
      refine Fg.wpl_value (v := .bool true) (w' := w7) rfl (Fg.run_assign rfl rfl) ?_
      simp only [Act.put, List.setIfInBounds_toArray, List.set_cons_succ, List.set_cons_zero]
      refine wpList_nil ?_
      have H7 := Lib.hid (gb_trans (gb_trans H2.out.1 H6.out) gw7); clear gw7
      go_wp2
      go_ret
      exact ⟨rfl, H7.out⟩
    | true =>
      have hRa := HR.out.1 trivial
      have hRb := HR.out.2.1 rfl
      go_upto_region 5 with (fail)
      refine Fg.region_t [5, 6] [.any, .any, .any, .any, .any, .fresh 33 (pL zeros) w4.heap.size, .fresh 33 (pL zeros) w4.heap.size, .any, .any, .any, .any, .any, .any, .any, .any, .any, .any, .any, .any, .any, .any, .any, .any, .any, .any, .any, .val (a.v), .val (nV (num a.m)), .val (b.v), .val (nV (num b.m))] w4 6 (gb_refl _ _) (by kernel_rfl) (by kernel_rfl) (by kernel_rfl) (by kernel_rfl) (by decide) (by kernel_rfl) ?_ ?_
      · refine ⟨Fg.vT rfl (by decide) fun ac w h => ?_, ?_⟩
        · have e2 : ac.tmps.getD 2 undef = Value.pointer (some ⟨w0.heap.size, 0, none⟩) := h.rest 2 (by kernel_rfl)
          refine ⟨a.v, w, wants_none rfl, ?_, gb_refl _ _, rfl⟩
          exact ldE rfl e2 (HB.out.1 w (gb_trans H4.out h.base))
        refine ⟨Fg.cT rfl (by decide) fun ac w h => ?_, ?_⟩
        · have e26 : ac.tmps.getD 26 undef = a.v := h.dep 26 (by kernel_rfl)
          refine ⟨14, #[a.v], wants_none rfl, Fg.run_call rfl rfl (by simp only [List.map_toArray, List.map_cons, List.map_nil, Act.eval, e26]) (Fg.run_enter Tryd.func14 (by kernel_rfl) (by kernel_rfl)), ?_⟩
          exact (c_from a w hRa).mono fun _ _ ⟨he, hg⟩ => ⟨_, he, hg, rfl⟩
        refine ⟨Fg.vT rfl (by decide) fun ac w h => ?_, ?_⟩
        · have e3 : ac.tmps.getD 3 undef = Value.pointer (some ⟨w0.heap.size + 1, 0, none⟩) := h.rest 3 (by kernel_rfl)
          refine ⟨b.v, w, wants_none rfl, ?_, gb_refl _ _, rfl⟩
          exact ldE rfl e3 (HB.out.2 w (gb_trans H4.out h.base))
        refine ⟨Fg.cT rfl (by decide) fun ac w h => ?_, ?_⟩
        · have e28 : ac.tmps.getD 28 undef = b.v := h.dep 28 (by kernel_rfl)
          refine ⟨14, #[b.v], wants_none rfl, Fg.run_call rfl rfl (by simp only [List.map_toArray, List.map_cons, List.map_nil, Act.eval, e28]) (Fg.run_enter Tryd.func14 (by kernel_rfl) (by kernel_rfl)), ?_⟩
          exact (c_from b w hRb).mono fun _ _ ⟨he, hg⟩ => ⟨_, he, hg, rfl⟩
        refine ⟨Fg.aT 33 (pL zeros) rfl (by show 5 < 102; decide) rfl fun ac w h => ?_, ?_⟩
        · refine ⟨wants_none rfl, ?_⟩
          clear h
          go_simp
          rfl
        refine ⟨Fg.aT 33 (pL zeros) rfl (by show 6 < 102; decide) rfl fun ac w h => ?_, ?_⟩
        · refine ⟨wants_none rfl, ?_⟩
          clear h
          go_simp
          rfl
        trivial
      · intro aq wq hB hsz hdf hrest hslots hpt
        obtain ⟨N5, e5, n5, b5⟩ : ∃ N, aq.tmps.getD 5 undef = .pointer (some ⟨N, 0, none⟩) ∧ w4.heap.size ≤ N ∧ Blk wq N 33 (pL zeros) := hslots 5 (by kernel_rfl)
        obtain ⟨N6, e6, n6, b6⟩ : ∃ N, aq.tmps.getD 6 undef = .pointer (some ⟨N, 0, none⟩) ∧ w4.heap.size ≤ N ∧ Blk wq N 33 (pL zeros) := hslots 6 (by kernel_rfl)
        obtain ⟨u26, e26⟩ : ∃ u, aq.tmps.getD 26 undef = u := ⟨_, rfl⟩
        have e27 : aq.tmps.getD 27 undef = nV (num a.m) := hslots 27 (by kernel_rfl)
        obtain ⟨u28, e28⟩ : ∃ u, aq.tmps.getD 28 undef = u := ⟨_, rfl⟩
        have e29 : aq.tmps.getD 29 undef = nV (num b.m) := hslots 29 (by kernel_rfl)
        have h56 : N5 ≠ N6 := fun e => (hpt 5 (by decide) N5 e5).2 6 (by decide) (by decide) (by rw [e6, e])
        obtain rfl := Fg.frame_is (a := aq) (vs := [Value.agg #[Value.int IntKind.u64 a.x0, Value.int IntKind.u64 a.x1, Value.int IntKind.u64 a.x2, Value.int IntKind.u64 a.x3, Value.int IntKind.u64 a.x4], Value.agg #[Value.int IntKind.u64 b.x0, Value.int IntKind.u64 b.x1, Value.int IntKind.u64 b.x2, Value.int IntKind.u64 b.x3, Value.int IntKind.u64 b.x4], Value.pointer (some ⟨w0.heap.size, 0, none⟩), Value.pointer (some ⟨w0.heap.size + 1, 0, none⟩), Value.bool false, Value.pointer (some ⟨N5, 0, none⟩), Value.pointer (some ⟨N6, 0, none⟩), undef, undef, undef, undef, undef, Value.agg #[Value.int IntKind.u64 a.x0, Value.int IntKind.u64 a.x1, Value.int IntKind.u64 a.x2, Value.int IntKind.u64 a.x3, Value.int IntKind.u64 a.x4], Value.bool true, Value.bool false, Value.bool false, Value.agg #[Value.int IntKind.u64 b.x0, Value.int IntKind.u64 b.x1, Value.int IntKind.u64 b.x2, Value.int IntKind.u64 b.x3, Value.int IntKind.u64 b.x4], Value.bool true, Value.bool false, Value.bool false, undef, undef, undef, undef, undef, undef, u26, nV (num a.m), u28, nV (num b.m), undef, undef, undef, undef, undef, undef, undef, undef, undef, undef, undef, undef, undef, undef, undef, undef, undef, undef, undef, undef, undef, undef, undef, undef, undef, undef, undef, undef, undef, undef, undef, undef, undef, undef, undef, undef, undef, undef, undef, undef, undef, undef, undef, undef, undef, undef, undef, undef, undef, undef, undef, undef, undef, undef, undef, undef, undef, undef, undef, undef, undef, undef, undef, undef, undef, undef, undef, undef, undef, undef, undef, undef]) hsz ⟨hrest 0 (by kernel_rfl), hrest 1 (by kernel_rfl), hrest 2 (by kernel_rfl), hrest 3 (by kernel_rfl), hrest 4 (by kernel_rfl), e5, e6, hrest 7 (by kernel_rfl), hrest 8 (by kernel_rfl), hrest 9 (by kernel_rfl), hrest 10 (by kernel_rfl), hrest 11 (by kernel_rfl), hrest 12 (by kernel_rfl), hrest 13 (by kernel_rfl), hrest 14 (by kernel_rfl), hrest 15 (by kernel_rfl), hrest 16 (by kernel_rfl), hrest 17 (by kernel_rfl), hrest 18 (by kernel_rfl), hrest 19 (by kernel_rfl), hrest 20 (by kernel_rfl), hrest 21 (by kernel_rfl), hrest 22 (by kernel_rfl), hrest 23 (by kernel_rfl), hrest 24 (by kernel_rfl), hrest 25 (by kernel_rfl), e26, e27, e28, e29, hrest 30 (by kernel_rfl), hrest 31 (by kernel_rfl), hrest 32 (by kernel_rfl), hrest 33 (by kernel_rfl), hrest 34 (by kernel_rfl), hrest 35 (by kernel_rfl), hrest 36 (by kernel_rfl), hrest 37 (by kernel_rfl), hrest 38 (by kernel_rfl), hrest 39 (by kernel_rfl), hrest 40 (by kernel_rfl), hrest 41 (by kernel_rfl), hrest 42 (by kernel_rfl), hrest 43 (by kernel_rfl), hrest 44 (by kernel_rfl), hrest 45 (by kernel_rfl), hrest 46 (by kernel_rfl), hrest 47 (by kernel_rfl), hrest 48 (by kernel_rfl), hrest 49 (by kernel_rfl), hrest 50 (by kernel_rfl), hrest 51 (by kernel_rfl), hrest 52 (by kernel_rfl), hrest 53 (by kernel_rfl), hrest 54 (by kernel_rfl), hrest 55 (by kernel_rfl), hrest 56 (by kernel_rfl), hrest 57 (by kernel_rfl), hrest 58 (by kernel_rfl), hrest 59 (by kernel_rfl), hrest 60 (by kernel_rfl), hrest 61 (by kernel_rfl), hrest 62 (by kernel_rfl), hrest 63 (by kernel_rfl), hrest 64 (by kernel_rfl), hrest 65 (by kernel_rfl), hrest 66 (by kernel_rfl), hrest 67 (by kernel_rfl), hrest 68 (by kernel_rfl), hrest 69 (by kernel_rfl), hrest 70 (by kernel_rfl), hrest 71 (by kernel_rfl), hrest 72 (by kernel_rfl), hrest 73 (by kernel_rfl), hrest 74 (by kernel_rfl), hrest 75 (by kernel_rfl), hrest 76 (by kernel_rfl), hrest 77 (by kernel_rfl), hrest 78 (by kernel_rfl), hrest 79 (by kernel_rfl), hrest 80 (by kernel_rfl), hrest 81 (by kernel_rfl), hrest 82 (by kernel_rfl), hrest 83 (by kernel_rfl), hrest 84 (by kernel_rfl), hrest 85 (by kernel_rfl), hrest 86 (by kernel_rfl), hrest 87 (by kernel_rfl), hrest 88 (by kernel_rfl), hrest 89 (by kernel_rfl), hrest 90 (by kernel_rfl), hrest 91 (by kernel_rfl), hrest 92 (by kernel_rfl), hrest 93 (by kernel_rfl), hrest 94 (by kernel_rfl), hrest 95 (by kernel_rfl), hrest 96 (by kernel_rfl), hrest 97 (by kernel_rfl), hrest 98 (by kernel_rfl), hrest 99 (by kernel_rfl), hrest 100 (by kernel_rfl), hrest 101 (by kernel_rfl), trivial⟩ hdf
        clear hsz hdf hrest hslots hpt e5 e6 e26 e27 e28 e29
        refine Fg.wpl_skip rfl rfl (st (l := num a.m) rfl rfl rfl b5 rfl (num_len _) rfl) ?_
        have d5 := stored (l := num a.m) b5 rfl (num_len _)
        have d6 := b6.setCells_other (cs := pL (num a.m)) (C := N5) 0 h56
        have dg := gb_setCells_new (cs := pL (num a.m)) hB (B := N5) n5 0
        refine Fg.wpl_skip rfl rfl (st (l := num b.m) rfl rfl rfl d6 rfl (num_len _) rfl) ?_
        refine wpList_nil ?_
        have f5 := d5.setCells_other (cs := pL (num b.m)) (C := N6) 0 (Ne.symm h56)
        have f6 := stored (l := num b.m) d6 rfl (num_len _)
        have fg := gb_setCells_new (cs := pL (num b.m)) dg (B := N6) n6 0
        clear d5 d6 dg b5 b6 hB n5 n6 h56
        revert fg; revert f6; revert f5
        generalize World.setCells (World.setCells _ _ _ _) _ _ _ = w6
        intro f5 f6 fg
        have H6 := Lib.hid (And.intro (gb_trans H4.out fg) (And.intro f5 f6)); clear f5 f6 fg
        obtain ⟨r, ok, s, hroots⟩ := roots_of hRa hRb
        have HQ := Lib.hid hroots; clear hroots
        go_upto_region 6 with (fail)
        refine wp_region_lit ?_
        refine Fg.wpl_value (v := a.v) (w' := w6) rfl (ldE rfl rfl (HB.out.1 _ H6.out.1)) ?_
        simp only [Act.put, List.setIfInBounds_toArray, List.set_cons_succ, List.set_cons_zero]
        refine Fg.wpl_value (v := b.v) (w' := w6) rfl (ldE rfl rfl (HB.out.2 _ H6.out.1)) ?_
        simp only [Act.put, List.setIfInBounds_toArray, List.set_cons_succ, List.set_cons_zero]
        refine Fg.wpl_call rfl (Fg.run_call (vs := #[a.v, b.v]) rfl rfl (by simp only [List.map_toArray, List.map_cons, List.map_nil, Act.eval] <;> rfl) (Fg.run_enter Tryd.func25 (by kernel_rfl) (by kernel_rfl))) ?_
        refine (HQ.out.fr w6 (HT.out.grown (gb_trans H2.out.1 H6.out.1))).mono ?_
        rintro e w7 ⟨rfl, gw7⟩
        refine ⟨_, rfl, ?_⟩
        simp only [Act.put, List.setIfInBounds_toArray, List.set_cons_succ, List.set_cons_zero]
        refine Fg.wpl_value (v := .tuple #[r.v, .bool ok]) (w' := w7) rfl (Fg.run_move rfl rfl) ?_
        simp only [Act.put, List.setIfInBounds_toArray, List.set_cons_succ, List.set_cons_zero]
        refine Fg.wpl_value (v := r.v) (w' := w7) rfl (by go_simp <;> rfl) ?_
        simp only [Act.put, List.setIfInBounds_toArray, List.set_cons_succ, List.set_cons_zero]
        refine Fg.wpl_value (v := .bool ok) (w' := w7) rfl (by go_simp <;> rfl) ?_
        simp only [Act.put, List.setIfInBounds_toArray, List.set_cons_succ, List.set_cons_zero]
        refine Fg.wpl_value (v := .pointer (some ⟨w7.heap.size, 0, none⟩)) (w' := w7.alloc (.cells (feL Fe.zeroF).toArray 24)) rfl (by go_simp; rfl) ?_
        simp only [Act.put, List.setIfInBounds_toArray, List.set_cons_succ, List.set_cons_zero]
        refine Fg.wpl_skip rfl rfl (stE (a := r) rfl rfl rfl (Blk.new w7 (feL Fe.zeroF) 24) rfl) ?_
        refine Fg.wpl_value (v := .bool ok) (w' := _) rfl (Fg.run_assign rfl rfl) ?_
        simp only [Act.put, List.setIfInBounds_toArray, List.set_cons_succ, List.set_cons_zero]
        refine wpList_nil ?_
        obtain ⟨h8, g8, s8⟩ := varE w7 r
        revert h8 g8 s8
        generalize World.setCells _ _ _ _ = w8
        intro h8 g8 s8
        have y7 : w2.heap.size ≤ w7.heap.size := (gb_trans H6.out.1 gw7).size
        have y5 : N5 < w7.heap.size := (H6.out.2.1.grown gw7 (by simp)).lt
        have y6 : N6 < w7.heap.size := (H6.out.2.2.grown gw7 (by simp)).lt
        have H8 := Lib.hid (And.intro (gb_trans (gb_trans H6.out.1 gw7) g8) (And.intro ((H6.out.2.1.grown gw7 (by simp)).grown g8 (by simp)) (And.intro ((H6.out.2.2.grown gw7 (by simp)).grown g8 (by simp)) h8))); clear gw7 g8 h8
        obtain ⟨N7, hN7⟩ : ∃ N7, N7 = w7.heap.size := ⟨_, rfl⟩
        rw [← hN7] at H8 s8 y7 y5 y6 ⊢
        clear hN7
        go_upto_region 7 with (fail)
        refine wp_region_lit ?_
        refine Fg.wpl_value (v := nV (num a.m)) (w' := w8) rfl (ld rfl rfl (H8.out.2.1) (num_len _) rfl rfl) ?_
        simp only [Act.put, List.setIfInBounds_toArray, List.set_cons_succ, List.set_cons_zero]
        refine Fg.wpl_value (v := nV (num b.m)) (w' := w8) rfl (ld rfl rfl (H8.out.2.2.1) (num_len _) rfl rfl) ?_
        simp only [Act.put, List.setIfInBounds_toArray, List.set_cons_succ, List.set_cons_zero]
        refine Fg.wpl_call rfl (Fg.run_call (vs := #[nV (num a.m), nV (num b.m)]) rfl rfl (by simp only [List.map_toArray, List.map_cons, List.map_nil, Act.eval] <;> rfl) (Fg.run_enter Tryd.func26 (by kernel_rfl) (by kernel_rfl))) ?_
        refine (HQ.out.rr w8).mono ?_
        rintro e w9 ⟨rfl, gw9⟩
        refine ⟨_, rfl, ?_⟩
        simp only [Act.put, List.setIfInBounds_toArray, List.set_cons_succ, List.set_cons_zero]
        refine Fg.wpl_value (v := .tuple #[nV s, .bool ok]) (w' := w9) rfl (Fg.run_move rfl rfl) ?_
        simp only [Act.put, List.setIfInBounds_toArray, List.set_cons_succ, List.set_cons_zero]
        refine Fg.wpl_value (v := nV s) (w' := w9) rfl (by go_simp <;> rfl) ?_
        simp only [Act.put, List.setIfInBounds_toArray, List.set_cons_succ, List.set_cons_zero]
        refine Fg.wpl_value (v := .bool ok) (w' := w9) rfl (by go_simp <;> rfl) ?_
        simp only [Act.put, List.setIfInBounds_toArray, List.set_cons_succ, List.set_cons_zero]
        refine Fg.wpl_value (v := .pointer (some ⟨w9.heap.size, 0, none⟩)) (w' := w9.alloc (.cells (pL zeros).toArray 33)) rfl (by go_simp; rfl) ?_
        simp only [Act.put, List.setIfInBounds_toArray, List.set_cons_succ, List.set_cons_zero]
        refine Fg.wpl_skip rfl rfl (st (l := s) rfl rfl rfl (new (w := w9) rfl zeros) rfl HQ.out.len rfl) ?_
        refine Fg.wpl_value (v := .bool ok) (w' := _) rfl (Fg.run_assign rfl rfl) ?_
        simp only [Act.put, List.setIfInBounds_toArray, List.set_cons_succ, List.set_cons_zero]
        refine wpList_nil ?_
        obtain ⟨h10, g10, s10⟩ := var w9 s HQ.out.len
        revert h10 g10 s10
        generalize World.setCells _ _ _ _ = w10
        intro h10 g10 s10
        have z9 := gw9.size
        have H10 := Lib.hid (And.intro (gb_trans (gb_trans H8.out.1 gw9) g10) (And.intro ((H8.out.2.1.grown gw9 (by simp)).grown g10 (by simp)) (And.intro ((H8.out.2.2.1.grown gw9 (by simp)).grown g10 (by simp)) (And.intro ((H8.out.2.2.2.grown gw9 (by simp)).grown g10 (by simp)) h10)))); clear gw9 g10 h10 H8
        obtain ⟨N9, hN9⟩ : ∃ N9, N9 = w9.heap.size := ⟨_, rfl⟩
        rw [← hN9] at H10 s10 z9 ⊢
        clear hN9
        go_upto_region 8 with (fail)
        obtain ⟨q, hq⟩ : ∃ q, q = Fe.mulF (Fe.sqF a) b := ⟨_, rfl⟩
        have hqr : q.Right := by rw [hq]; exact Fe.mul_right _ _
        have cM : ∀ w, Calls Tryd.prog 7 #[(Fe.sqF a).v, b.v] w fun e w' => e = .returned q.v ∧ w.grownBy w' none := fun w => hq ▸ feOut_and (mul_fe (Fe.sqF a) b w (Fe.sq_right a).ok HO.out.2)
        have HM := Lib.hid cM; clear cM hq
        obtain ⟨r2, ok2, s2, hroots⟩ := roots_of hqr hRb
        have H2q := Lib.hid hroots; clear hroots
        cases ok with
        | true =>
          refine Fg.region_p [] [.any, .any, .any, .any, .any, .any, .any, .any, .any, .any, .any, .any, .any, .any, .any, .any, .any, .any, .any, .any, .any, .any, .any, .any, .any, .any, .any, .any, .any, .any, .any, .any, .any, .any, .any, .any, .any, .any, .any, .any, .any, .any, .val (Value.bool true), .val (Value.bool true), .val (Value.bool false), .val (Value.bool false), .val (Value.bool true), .val (Value.bool true), .val (r.v), .val (nV s), .val (Value.bool true), .val (Value.bool false), .val (Value.bool false), .val (Value.bool false), .val (Value.bool false), .val (Value.bool true), .val (Value.bool false), .val (Value.bool false), .val undef, .val undef, .val undef, .val (Value.bool false), .val (Value.bool false)] w10 21 (gb_refl _ _) (by kernel_rfl) (by kernel_rfl) (by kernel_rfl) (by kernel_rfl) (by decide) (by kernel_rfl) ?_ ?_
          · refine ⟨Fg.vT rfl (by decide) fun ac w h => ?_, ?_⟩
            · have e8 : ac.tmps.getD 8 undef = Value.bool true := h.rest 8 (by kernel_rfl)
              exact ⟨_, w, wants_none rfl, Fg.run_move rfl e8, gb_refl _ _, rfl⟩
            refine ⟨Fg.vT rfl (by decide) fun ac w h => ?_, ?_⟩
            · have e10 : ac.tmps.getD 10 undef = Value.bool true := h.rest 10 (by kernel_rfl)
              exact ⟨_, w, wants_none rfl, Fg.run_move rfl e10, gb_refl _ _, rfl⟩
            refine ⟨Fg.vT rfl (by decide) fun ac w h => ?_, ?_⟩
            · have e42 : ac.tmps.getD 42 undef = Value.bool true := h.dep 42 (by kernel_rfl)
              have e43 : ac.tmps.getD 43 undef = Value.bool true := h.dep 43 (by kernel_rfl)
              refine ⟨.bool false, w, wants_none rfl, ?_, gb_refl _ _, rfl⟩
              clear h
              simp only [execOp, Act.eval, e42, e43]
              go_simp
            refine ⟨Fg.vT rfl (by decide) fun ac w h => ?_, ?_⟩
            · have e44 : ac.tmps.getD 44 undef = Value.bool false := h.dep 44 (by kernel_rfl)
              exact ⟨_, w, wants_none rfl, Fg.run_move rfl e44, gb_refl _ _, rfl⟩
            refine ⟨Fg.vT rfl (by decide) fun ac w h => ?_, ?_⟩
            · have e45 : ac.tmps.getD 45 undef = Value.bool false := h.dep 45 (by kernel_rfl)
              have e8 : ac.tmps.getD 8 undef = Value.bool true := h.rest 8 (by kernel_rfl)
              exact ⟨_, w, wants_some (d := 45) rfl rfl (by rw [h.size]; show 45 < 102; decide) e45, Fg.run_move rfl e8, gb_refl _ _, rfl⟩
            refine ⟨Fg.vT rfl (by decide) fun ac w h => ?_, ?_⟩
            · have e45 : ac.tmps.getD 45 undef = Value.bool false := h.dep 45 (by kernel_rfl)
              have e46 : ac.tmps.getD 46 undef = Value.bool true := h.dep 46 (by kernel_rfl)
              exact ⟨_, w, wants_some (d := 45) rfl rfl (by rw [h.size]; show 45 < 102; decide) e45, Fg.run_move rfl e46, gb_refl _ _, rfl⟩
            refine ⟨Fg.vT rfl (by decide) fun ac w h => ?_, ?_⟩
            · have e47 : ac.tmps.getD 47 undef = Value.bool true := h.dep 47 (by kernel_rfl)
              have e7 : ac.tmps.getD 7 undef = Value.pointer (some ⟨N7, 0, none⟩) := h.rest 7 (by kernel_rfl)
              refine ⟨r.v, w, wants_some (d := 47) rfl rfl (by rw [h.size]; show 47 < 102; decide) e47, ?_, gb_refl _ _, rfl⟩
              exact ldE rfl e7 (H10.out.2.2.2.1.grown h.base (by simp))
            refine ⟨Fg.vT rfl (by decide) fun ac w h => ?_, ?_⟩
            · have e47 : ac.tmps.getD 47 undef = Value.bool true := h.dep 47 (by kernel_rfl)
              have e9 : ac.tmps.getD 9 undef = Value.pointer (some ⟨N9, 0, none⟩) := h.rest 9 (by kernel_rfl)
              refine ⟨nV s, w, wants_some (d := 47) rfl rfl (by rw [h.size]; show 47 < 102; decide) e47, ?_, gb_refl _ _, rfl⟩
              exact ld rfl e9 (H10.out.2.2.2.2.grown h.base (by simp)) HQ.out.len rfl rfl
            refine ⟨Fg.cT rfl (by decide) fun ac w h => ?_, ?_⟩
            · have e47 : ac.tmps.getD 47 undef = Value.bool true := h.dep 47 (by kernel_rfl)
              have e48 : ac.tmps.getD 48 undef = r.v := h.dep 48 (by kernel_rfl)
              have e49 : ac.tmps.getD 49 undef = nV s := h.dep 49 (by kernel_rfl)
              refine ⟨15, #[r.v, nV s], wants_some (d := 47) rfl rfl (by rw [h.size]; show 47 < 102; decide) e47, Fg.run_call rfl rfl (by simp only [List.map_toArray, List.map_cons, List.map_nil, Act.eval, e48, e49]) (Fg.run_enter Tryd.func15 (by kernel_rfl) (by kernel_rfl)), ?_⟩
              exact (HQ.out.yes rfl w).mono fun _ _ ⟨he, hg⟩ => ⟨_, he, hg, rfl⟩
            refine ⟨Fg.vT rfl (by decide) fun ac w h => ?_, ?_⟩
            · have e47 : ac.tmps.getD 47 undef = Value.bool true := h.dep 47 (by kernel_rfl)
              have e50 : ac.tmps.getD 50 undef = Value.bool true := h.dep 50 (by kernel_rfl)
              refine ⟨Value.bool false, w, wants_some (d := 47) rfl rfl (by rw [h.size]; show 47 < 102; decide) e47, ?_, gb_refl _ _, rfl⟩
              clear h
              simp only [execOp, Act.eval, e50]
              go_simp
            refine ⟨Fg.vT rfl (by decide) fun ac w h => ?_, ?_⟩
            · have e45 : ac.tmps.getD 45 undef = Value.bool false := h.dep 45 (by kernel_rfl)
              have e47 : ac.tmps.getD 47 undef = Value.bool true := h.dep 47 (by kernel_rfl)
              have e51 : ac.tmps.getD 51 undef = Value.bool false := h.dep 51 (by kernel_rfl)
              refine ⟨Value.bool false, w, wants_some (d := 45) rfl rfl (by rw [h.size]; show 45 < 102; decide) e45, ?_, gb_refl _ _, rfl⟩
              clear h
              simp only [execOp, Act.eval, e47, e51]
              go_simp
            refine ⟨Fg.vT rfl (by decide) fun ac w h => ?_, ?_⟩
            · have e45 : ac.tmps.getD 45 undef = Value.bool false := h.dep 45 (by kernel_rfl)
              have e52 : ac.tmps.getD 52 undef = Value.bool false := h.dep 52 (by kernel_rfl)
              refine ⟨Value.bool false, w, wants_none rfl, ?_, gb_refl _ _, rfl⟩
              clear h
              simp only [execOp, Act.eval, e45, e52]
              go_simp
            refine ⟨Fg.vT rfl (by decide) fun ac w h => ?_, ?_⟩
            · have e53 : ac.tmps.getD 53 undef = Value.bool false := h.dep 53 (by kernel_rfl)
              exact ⟨_, w, wants_none rfl, Fg.run_move rfl e53, gb_refl _ _, rfl⟩
            refine ⟨Fg.vT rfl (by decide) fun ac w h => ?_, ?_⟩
            · have e54 : ac.tmps.getD 54 undef = Value.bool false := h.dep 54 (by kernel_rfl)
              have e8 : ac.tmps.getD 8 undef = Value.bool true := h.rest 8 (by kernel_rfl)
              exact ⟨_, w, wants_some (d := 54) rfl rfl (by rw [h.size]; show 54 < 102; decide) e54, Fg.run_move rfl e8, gb_refl _ _, rfl⟩
            refine ⟨Fg.vT rfl (by decide) fun ac w h => ?_, ?_⟩
            · have e54 : ac.tmps.getD 54 undef = Value.bool false := h.dep 54 (by kernel_rfl)
              have e55 : ac.tmps.getD 55 undef = Value.bool true := h.dep 55 (by kernel_rfl)
              refine ⟨Value.bool false, w, wants_some (d := 54) rfl rfl (by rw [h.size]; show 54 < 102; decide) e54, ?_, gb_refl _ _, rfl⟩
              clear h
              simp only [execOp, Act.eval, e55]
              go_simp
            refine ⟨Fg.vT rfl (by decide) fun ac w h => ?_, ?_⟩
            · have e54 : ac.tmps.getD 54 undef = Value.bool false := h.dep 54 (by kernel_rfl)
              have e56 : ac.tmps.getD 56 undef = Value.bool false := h.dep 56 (by kernel_rfl)
              exact ⟨_, w, wants_some (d := 54) rfl rfl (by rw [h.size]; show 54 < 102; decide) e54, Fg.run_move rfl e56, gb_refl _ _, rfl⟩
            refine ⟨Fg.sT rfl (by decide) (fun _ => rfl) fun ac w h => ?_, ?_⟩
            · have e57 : ac.tmps.getD 57 undef = Value.bool false := h.dep 57 (by kernel_rfl)
              exact not_wants (d := 57) rfl rfl (by rw [h.size]; show 57 < 102; decide) e57 (by decide)
            refine ⟨Fg.sT rfl (by decide) (fun _ => rfl) fun ac w h => ?_, ?_⟩
            · have e57 : ac.tmps.getD 57 undef = Value.bool false := h.dep 57 (by kernel_rfl)
              exact not_wants (d := 57) rfl rfl (by rw [h.size]; show 57 < 102; decide) e57 (by decide)
            refine ⟨Fg.sT rfl (by decide) (fun _ => rfl) fun ac w h => ?_, ?_⟩
            · have e57 : ac.tmps.getD 57 undef = Value.bool false := h.dep 57 (by kernel_rfl)
              exact not_wants (d := 57) rfl rfl (by rw [h.size]; show 57 < 102; decide) e57 (by decide)
            refine ⟨Fg.vT rfl (by decide) fun ac w h => ?_, ?_⟩
            · have e54 : ac.tmps.getD 54 undef = Value.bool false := h.dep 54 (by kernel_rfl)
              have e57 : ac.tmps.getD 57 undef = Value.bool false := h.dep 57 (by kernel_rfl)
              refine ⟨Value.bool false, w, wants_some (d := 54) rfl rfl (by rw [h.size]; show 54 < 102; decide) e54, ?_, gb_refl _ _, rfl⟩
              clear h
              simp only [execOp, Act.eval, e57]
              go_simp
            refine ⟨Fg.vT rfl (by decide) fun ac w h => ?_, ?_⟩
            · have e54 : ac.tmps.getD 54 undef = Value.bool false := h.dep 54 (by kernel_rfl)
              have e61 : ac.tmps.getD 61 undef = Value.bool false := h.dep 61 (by kernel_rfl)
              refine ⟨Value.bool false, w, wants_none rfl, ?_, gb_refl _ _, rfl⟩
              clear h
              simp only [execOp, Act.eval, e54, e61]
              go_simp
            trivial
          · intro ap wp hB hsz hdf hrest hslots hpt
            obtain ⟨u42, e42⟩ : ∃ u, ap.tmps.getD 42 undef = u := ⟨_, rfl⟩
            obtain ⟨u43, e43⟩ : ∃ u, ap.tmps.getD 43 undef = u := ⟨_, rfl⟩
            obtain ⟨u44, e44⟩ : ∃ u, ap.tmps.getD 44 undef = u := ⟨_, rfl⟩
            obtain ⟨u45, e45⟩ : ∃ u, ap.tmps.getD 45 undef = u := ⟨_, rfl⟩
            obtain ⟨u46, e46⟩ : ∃ u, ap.tmps.getD 46 undef = u := ⟨_, rfl⟩
            obtain ⟨u47, e47⟩ : ∃ u, ap.tmps.getD 47 undef = u := ⟨_, rfl⟩
            obtain ⟨u48, e48⟩ : ∃ u, ap.tmps.getD 48 undef = u := ⟨_, rfl⟩
            obtain ⟨u49, e49⟩ : ∃ u, ap.tmps.getD 49 undef = u := ⟨_, rfl⟩
            obtain ⟨u50, e50⟩ : ∃ u, ap.tmps.getD 50 undef = u := ⟨_, rfl⟩
            obtain ⟨u51, e51⟩ : ∃ u, ap.tmps.getD 51 undef = u := ⟨_, rfl⟩
            obtain ⟨u52, e52⟩ : ∃ u, ap.tmps.getD 52 undef = u := ⟨_, rfl⟩
            obtain ⟨u53, e53⟩ : ∃ u, ap.tmps.getD 53 undef = u := ⟨_, rfl⟩
            obtain ⟨u54, e54⟩ : ∃ u, ap.tmps.getD 54 undef = u := ⟨_, rfl⟩
            obtain ⟨u55, e55⟩ : ∃ u, ap.tmps.getD 55 undef = u := ⟨_, rfl⟩
            obtain ⟨u56, e56⟩ : ∃ u, ap.tmps.getD 56 undef = u := ⟨_, rfl⟩
            obtain ⟨u57, e57⟩ : ∃ u, ap.tmps.getD 57 undef = u := ⟨_, rfl⟩
            obtain ⟨u58, e58⟩ : ∃ u, ap.tmps.getD 58 undef = u := ⟨_, rfl⟩
            obtain ⟨u59, e59⟩ : ∃ u, ap.tmps.getD 59 undef = u := ⟨_, rfl⟩
            obtain ⟨u60, e60⟩ : ∃ u, ap.tmps.getD 60 undef = u := ⟨_, rfl⟩
            obtain ⟨u61, e61⟩ : ∃ u, ap.tmps.getD 61 undef = u := ⟨_, rfl⟩
            have e62 : ap.tmps.getD 62 undef = Value.bool false := hslots 62 (by kernel_rfl)
            obtain rfl := Fg.frame_is (a := ap) (vs := [Value.agg #[Value.int IntKind.u64 a.x0, Value.int IntKind.u64 a.x1, Value.int IntKind.u64 a.x2, Value.int IntKind.u64 a.x3, Value.int IntKind.u64 a.x4], Value.agg #[Value.int IntKind.u64 b.x0, Value.int IntKind.u64 b.x1, Value.int IntKind.u64 b.x2, Value.int IntKind.u64 b.x3, Value.int IntKind.u64 b.x4], Value.pointer (some ⟨w0.heap.size, 0, none⟩), Value.pointer (some ⟨w0.heap.size + 1, 0, none⟩), Value.bool false, Value.pointer (some ⟨N5, 0, none⟩), Value.pointer (some ⟨N6, 0, none⟩), Value.pointer (some ⟨N7, 0, none⟩), Value.bool true, Value.pointer (some ⟨N9, 0, none⟩), Value.bool true, undef, Value.agg #[Value.int IntKind.u64 a.x0, Value.int IntKind.u64 a.x1, Value.int IntKind.u64 a.x2, Value.int IntKind.u64 a.x3, Value.int IntKind.u64 a.x4], Value.bool true, Value.bool false, Value.bool false, Value.agg #[Value.int IntKind.u64 b.x0, Value.int IntKind.u64 b.x1, Value.int IntKind.u64 b.x2, Value.int IntKind.u64 b.x3, Value.int IntKind.u64 b.x4], Value.bool true, Value.bool false, Value.bool false, undef, undef, undef, undef, undef, undef, u26, nV (num a.m), u28, nV (num b.m), Value.tuple #[r.v, Value.bool true], a.v, b.v, Value.tuple #[r.v, Value.bool true], r.v, Value.bool true, Value.tuple #[nV s, Value.bool true], nV (num a.m), nV (num b.m), Value.tuple #[nV s, Value.bool true], nV s, Value.bool true, u42, u43, u44, u45, u46, u47, u48, u49, u50, u51, u52, u53, u54, u55, u56, u57, u58, u59, u60, u61, Value.bool false, undef, undef, undef, undef, undef, undef, undef, undef, undef, undef, undef, undef, undef, undef, undef, undef, undef, undef, undef, undef, undef, undef, undef, undef, undef, undef, undef, undef, undef, undef, undef, undef, undef, undef, undef, undef, undef, undef, undef]) hsz ⟨hrest 0 (by kernel_rfl), hrest 1 (by kernel_rfl), hrest 2 (by kernel_rfl), hrest 3 (by kernel_rfl), hrest 4 (by kernel_rfl), hrest 5 (by kernel_rfl), hrest 6 (by kernel_rfl), hrest 7 (by kernel_rfl), hrest 8 (by kernel_rfl), hrest 9 (by kernel_rfl), hrest 10 (by kernel_rfl), hrest 11 (by kernel_rfl), hrest 12 (by kernel_rfl), hrest 13 (by kernel_rfl), hrest 14 (by kernel_rfl), hrest 15 (by kernel_rfl), hrest 16 (by kernel_rfl), hrest 17 (by kernel_rfl), hrest 18 (by kernel_rfl), hrest 19 (by kernel_rfl), hrest 20 (by kernel_rfl), hrest 21 (by kernel_rfl), hrest 22 (by kernel_rfl), hrest 23 (by kernel_rfl), hrest 24 (by kernel_rfl), hrest 25 (by kernel_rfl), hrest 26 (by kernel_rfl), hrest 27 (by kernel_rfl), hrest 28 (by kernel_rfl), hrest 29 (by kernel_rfl), hrest 30 (by kernel_rfl), hrest 31 (by kernel_rfl), hrest 32 (by kernel_rfl), hrest 33 (by kernel_rfl), hrest 34 (by kernel_rfl), hrest 35 (by kernel_rfl), hrest 36 (by kernel_rfl), hrest 37 (by kernel_rfl), hrest 38 (by kernel_rfl), hrest 39 (by kernel_rfl), hrest 40 (by kernel_rfl), hrest 41 (by kernel_rfl), e42, e43, e44, e45, e46, e47, e48, e49, e50, e51, e52, e53, e54, e55, e56, e57, e58, e59, e60, e61, e62, hrest 63 (by kernel_rfl), hrest 64 (by kernel_rfl), hrest 65 (by kernel_rfl), hrest 66 (by kernel_rfl), hrest 67 (by kernel_rfl), hrest 68 (by kernel_rfl), hrest 69 (by kernel_rfl), hrest 70 (by kernel_rfl), hrest 71 (by kernel_rfl), hrest 72 (by kernel_rfl), hrest 73 (by kernel_rfl), hrest 74 (by kernel_rfl), hrest 75 (by kernel_rfl), hrest 76 (by kernel_rfl), hrest 77 (by kernel_rfl), hrest 78 (by kernel_rfl), hrest 79 (by kernel_rfl), hrest 80 (by kernel_rfl), hrest 81 (by kernel_rfl), hrest 82 (by kernel_rfl), hrest 83 (by kernel_rfl), hrest 84 (by kernel_rfl), hrest 85 (by kernel_rfl), hrest 86 (by kernel_rfl), hrest 87 (by kernel_rfl), hrest 88 (by kernel_rfl), hrest 89 (by kernel_rfl), hrest 90 (by kernel_rfl), hrest 91 (by kernel_rfl), hrest 92 (by kernel_rfl), hrest 93 (by kernel_rfl), hrest 94 (by kernel_rfl), hrest 95 (by kernel_rfl), hrest 96 (by kernel_rfl), hrest 97 (by kernel_rfl), hrest 98 (by kernel_rfl), hrest 99 (by kernel_rfl), hrest 100 (by kernel_rfl), hrest 101 (by kernel_rfl), trivial⟩ hdf
            clear hsz hdf hrest hslots hpt e42 e43 e44 e45 e46 e47 e48 e49 e50 e51 e52 e53 e54 e55 e56 e57 e58 e59 e60 e61 e62
            dsimp only
            refine wpList_nil ?_
            have H11 := Lib.hid (And.intro (gb_trans H10.out.1 hB) (And.intro (H10.out.2.1.grown hB (by simp)) (And.intro (H10.out.2.2.1.grown hB (by simp)) (And.intro (H10.out.2.2.2.1.grown hB (by simp)) (H10.out.2.2.2.2.grown hB (by simp)))))); clear hB
            have x5 := H11.out.2.1.lt
            have x6 := H11.out.2.2.1.lt
            have x7 := H11.out.2.2.2.1.lt
            have x9 := H11.out.2.2.2.2.lt
            have x2 := H11.out.1.size
            go_upto_region 10 with (fail)
            refine Fg.region_t [11] [.any, .any, .any, .any, .any, .any, .any, .any, .any, .any, .any, .fresh 24 (feL Fe.zeroF) wp.heap.size, .any, .any, .any, .any, .any, .any, .any, .any, .any, .any, .any, .any, .any, .any, .any, .any, .any, .any, .any, .any, .any, .any, .any, .any, .any, .any, .any, .any, .any, .any, .any, .any, .any, .any, .any, .any, .any, .any, .any, .any, .any, .any, .any, .any, .any, .any, .any, .any, .any, .any, .any, .val (a.v), .val ((Fe.sqF a).v), .val (b.v), .val (q.v)] wp 5 (gb_refl _ _) (by kernel_rfl) (by kernel_rfl) (by kernel_rfl) (by kernel_rfl) (by decide) (by kernel_rfl) ?_ ?_
            · refine ⟨Fg.vT rfl (by decide) fun ac w h => ?_, ?_⟩
              · have e2 : ac.tmps.getD 2 undef = Value.pointer (some ⟨w0.heap.size, 0, none⟩) := h.rest 2 (by kernel_rfl)
                refine ⟨a.v, w, wants_none rfl, ?_, gb_refl _ _, rfl⟩
                exact ldE rfl e2 (HB.out.1 w (gb_trans H11.out.1 h.base))
              refine ⟨Fg.cT rfl (by decide) fun ac w h => ?_, ?_⟩
              · have e63 : ac.tmps.getD 63 undef = a.v := h.dep 63 (by kernel_rfl)
                refine ⟨12, #[a.v], wants_none rfl, Fg.run_call rfl rfl (by simp only [List.map_toArray, List.map_cons, List.map_nil, Act.eval, e63]) (Fg.run_enter Tryd.func12 (by kernel_rfl) (by kernel_rfl)), ?_⟩
                exact (feOut_and (sq_fe a w HO.out.1)).mono fun _ _ ⟨he, hg⟩ => ⟨_, he, hg, rfl⟩
              refine ⟨Fg.vT rfl (by decide) fun ac w h => ?_, ?_⟩
              · have e3 : ac.tmps.getD 3 undef = Value.pointer (some ⟨w0.heap.size + 1, 0, none⟩) := h.rest 3 (by kernel_rfl)
                refine ⟨b.v, w, wants_none rfl, ?_, gb_refl _ _, rfl⟩
                exact ldE rfl e3 (HB.out.2 w (gb_trans H11.out.1 h.base))
              refine ⟨Fg.cT rfl (by decide) fun ac w h => ?_, ?_⟩
              · have e64 : ac.tmps.getD 64 undef = (Fe.sqF a).v := h.dep 64 (by kernel_rfl)
                have e65 : ac.tmps.getD 65 undef = b.v := h.dep 65 (by kernel_rfl)
                refine ⟨7, #[(Fe.sqF a).v, b.v], wants_none rfl, Fg.run_call rfl rfl (by simp only [List.map_toArray, List.map_cons, List.map_nil, Act.eval, e64, e65]) (Fg.run_enter Tryd.func7 (by kernel_rfl) (by kernel_rfl)), ?_⟩
                exact (HM.out w).mono fun _ _ ⟨he, hg⟩ => ⟨_, he, hg, rfl⟩
              refine ⟨Fg.aT 24 (feL Fe.zeroF) rfl (by show 11 < 102; decide) rfl fun ac w h => ?_, ?_⟩
              · refine ⟨wants_none rfl, ?_⟩
                clear h
                go_simp
                rfl
              trivial
            · intro ax wx hB hsz hdf hrest hslots hpt
              obtain ⟨N11, e11, n11, b11⟩ : ∃ N, ax.tmps.getD 11 undef = .pointer (some ⟨N, 0, none⟩) ∧ wp.heap.size ≤ N ∧ Blk wx N 24 (feL Fe.zeroF) := hslots 11 (by kernel_rfl)
              obtain ⟨u63, e63⟩ : ∃ u, ax.tmps.getD 63 undef = u := ⟨_, rfl⟩
              obtain ⟨u64, e64⟩ : ∃ u, ax.tmps.getD 64 undef = u := ⟨_, rfl⟩
              obtain ⟨u65, e65⟩ : ∃ u, ax.tmps.getD 65 undef = u := ⟨_, rfl⟩
              have e66 : ax.tmps.getD 66 undef = q.v := hslots 66 (by kernel_rfl)
              obtain rfl := Fg.frame_is (a := ax) (vs := [Value.agg #[Value.int IntKind.u64 a.x0, Value.int IntKind.u64 a.x1, Value.int IntKind.u64 a.x2, Value.int IntKind.u64 a.x3, Value.int IntKind.u64 a.x4], Value.agg #[Value.int IntKind.u64 b.x0, Value.int IntKind.u64 b.x1, Value.int IntKind.u64 b.x2, Value.int IntKind.u64 b.x3, Value.int IntKind.u64 b.x4], Value.pointer (some ⟨w0.heap.size, 0, none⟩), Value.pointer (some ⟨w0.heap.size + 1, 0, none⟩), Value.bool false, Value.pointer (some ⟨N5, 0, none⟩), Value.pointer (some ⟨N6, 0, none⟩), Value.pointer (some ⟨N7, 0, none⟩), Value.bool true, Value.pointer (some ⟨N9, 0, none⟩), Value.bool true, Value.pointer (some ⟨N11, 0, none⟩), Value.agg #[Value.int IntKind.u64 a.x0, Value.int IntKind.u64 a.x1, Value.int IntKind.u64 a.x2, Value.int IntKind.u64 a.x3, Value.int IntKind.u64 a.x4], Value.bool true, Value.bool false, Value.bool false, Value.agg #[Value.int IntKind.u64 b.x0, Value.int IntKind.u64 b.x1, Value.int IntKind.u64 b.x2, Value.int IntKind.u64 b.x3, Value.int IntKind.u64 b.x4], Value.bool true, Value.bool false, Value.bool false, undef, undef, undef, undef, undef, undef, u26, nV (num a.m), u28, nV (num b.m), Value.tuple #[r.v, Value.bool true], a.v, b.v, Value.tuple #[r.v, Value.bool true], r.v, Value.bool true, Value.tuple #[nV s, Value.bool true], nV (num a.m), nV (num b.m), Value.tuple #[nV s, Value.bool true], nV s, Value.bool true, u42, u43, u44, u45, u46, u47, u48, u49, u50, u51, u52, u53, u54, u55, u56, u57, u58, u59, u60, u61, Value.bool false, u63, u64, u65, q.v, undef, undef, undef, undef, undef, undef, undef, undef, undef, undef, undef, undef, undef, undef, undef, undef, undef, undef, undef, undef, undef, undef, undef, undef, undef, undef, undef, undef, undef, undef, undef, undef, undef, undef, undef]) hsz ⟨hrest 0 (by kernel_rfl), hrest 1 (by kernel_rfl), hrest 2 (by kernel_rfl), hrest 3 (by kernel_rfl), hrest 4 (by kernel_rfl), hrest 5 (by kernel_rfl), hrest 6 (by kernel_rfl), hrest 7 (by kernel_rfl), hrest 8 (by kernel_rfl), hrest 9 (by kernel_rfl), hrest 10 (by kernel_rfl), e11, hrest 12 (by kernel_rfl), hrest 13 (by kernel_rfl), hrest 14 (by kernel_rfl), hrest 15 (by kernel_rfl), hrest 16 (by kernel_rfl), hrest 17 (by kernel_rfl), hrest 18 (by kernel_rfl), hrest 19 (by kernel_rfl), hrest 20 (by kernel_rfl), hrest 21 (by kernel_rfl), hrest 22 (by kernel_rfl), hrest 23 (by kernel_rfl), hrest 24 (by kernel_rfl), hrest 25 (by kernel_rfl), hrest 26 (by kernel_rfl), hrest 27 (by kernel_rfl), hrest 28 (by kernel_rfl), hrest 29 (by kernel_rfl), hrest 30 (by kernel_rfl), hrest 31 (by kernel_rfl), hrest 32 (by kernel_rfl), hrest 33 (by kernel_rfl), hrest 34 (by kernel_rfl), hrest 35 (by kernel_rfl), hrest 36 (by kernel_rfl), hrest 37 (by kernel_rfl), hrest 38 (by kernel_rfl), hrest 39 (by kernel_rfl), hrest 40 (by kernel_rfl), hrest 41 (by kernel_rfl), hrest 42 (by kernel_rfl), hrest 43 (by kernel_rfl), hrest 44 (by kernel_rfl), hrest 45 (by kernel_rfl), hrest 46 (by kernel_rfl), hrest 47 (by kernel_rfl), hrest 48 (by kernel_rfl), hrest 49 (by kernel_rfl), hrest 50 (by kernel_rfl), hrest 51 (by kernel_rfl), hrest 52 (by kernel_rfl), hrest 53 (by kernel_rfl), hrest 54 (by kernel_rfl), hrest 55 (by kernel_rfl), hrest 56 (by kernel_rfl), hrest 57 (by kernel_rfl), hrest 58 (by kernel_rfl), hrest 59 (by kernel_rfl), hrest 60 (by kernel_rfl), hrest 61 (by kernel_rfl), hrest 62 (by kernel_rfl), e63, e64, e65, e66, hrest 67 (by kernel_rfl), hrest 68 (by kernel_rfl), hrest 69 (by kernel_rfl), hrest 70 (by kernel_rfl), hrest 71 (by kernel_rfl), hrest 72 (by kernel_rfl), hrest 73 (by kernel_rfl), hrest 74 (by kernel_rfl), hrest 75 (by kernel_rfl), hrest 76 (by kernel_rfl), hrest 77 (by kernel_rfl), hrest 78 (by kernel_rfl), hrest 79 (by kernel_rfl), hrest 80 (by kernel_rfl), hrest 81 (by kernel_rfl), hrest 82 (by kernel_rfl), hrest 83 (by kernel_rfl), hrest 84 (by kernel_rfl), hrest 85 (by kernel_rfl), hrest 86 (by kernel_rfl), hrest 87 (by kernel_rfl), hrest 88 (by kernel_rfl), hrest 89 (by kernel_rfl), hrest 90 (by kernel_rfl), hrest 91 (by kernel_rfl), hrest 92 (by kernel_rfl), hrest 93 (by kernel_rfl), hrest 94 (by kernel_rfl), hrest 95 (by kernel_rfl), hrest 96 (by kernel_rfl), hrest 97 (by kernel_rfl), hrest 98 (by kernel_rfl), hrest 99 (by kernel_rfl), hrest 100 (by kernel_rfl), hrest 101 (by kernel_rfl), trivial⟩ hdf
              clear hsz hdf hrest hslots hpt e11 e63 e64 e65 e66
              dsimp only
              refine Fg.wpl_skip rfl rfl (stE (a := q) rfl rfl rfl b11 rfl) ?_
              refine wpList_nil ?_
              have k11 := storedE (a := q) b11 rfl
              have k5 := (H11.out.2.1.grown hB (by simp)).setCells_other (cs := feL q) (C := N11) 0 (by omega)
              have k6 := (H11.out.2.2.1.grown hB (by simp)).setCells_other (cs := feL q) (C := N11) 0 (by omega)
              have k7 := (H11.out.2.2.2.1.grown hB (by simp)).setCells_other (cs := feL q) (C := N11) 0 (by omega)
              have k9 := (H11.out.2.2.2.2.grown hB (by simp)).setCells_other (cs := feL q) (C := N11) 0 (by omega)
              have kg := gb_setCells_new (cs := feL q) (gb_trans H11.out.1 hB) (B := N11) (by omega) 0
              have y11 : N7 < N11 ∧ N9 < N11 := ⟨by omega, by omega⟩
              clear b11 hB n11 x5 x6 x7 x9 x2
              revert kg; revert k9; revert k7; revert k6; revert k5; revert k11
              generalize World.setCells _ _ _ _ = w12
              intro k11 k5 k6 k7 k9 kg
              have H12 := Lib.hid (And.intro kg (And.intro k5 (And.intro k6 (And.intro k7 (And.intro k9 k11))))); clear k11 k5 k6 k7 k9 kg H11 H10
              go_upto_region 11 with (fail)
              refine wp_region_lit ?_
              refine Fg.wpl_value (v := q.v) (w' := w12) rfl (ldE rfl rfl (H12.out.2.2.2.2.2)) ?_
              simp only [Act.put, List.setIfInBounds_toArray, List.set_cons_succ, List.set_cons_zero]
              refine Fg.wpl_value (v := b.v) (w' := w12) rfl (ldE rfl rfl (HB.out.2 _ H12.out.1)) ?_
              simp only [Act.put, List.setIfInBounds_toArray, List.set_cons_succ, List.set_cons_zero]
              refine Fg.wpl_call rfl (Fg.run_call (vs := #[q.v, b.v]) rfl rfl (by simp only [List.map_toArray, List.map_cons, List.map_nil, Act.eval] <;> rfl) (Fg.run_enter Tryd.func25 (by kernel_rfl) (by kernel_rfl))) ?_
              refine (H2q.out.fr w12 (HT.out.grown (gb_trans H2.out.1 H12.out.1))).mono ?_
              rintro e w13 ⟨rfl, gw13⟩
              refine ⟨_, rfl, ?_⟩
              simp only [Act.put, List.setIfInBounds_toArray, List.set_cons_succ, List.set_cons_zero]
              refine Fg.wpl_value (v := .tuple #[r2.v, .bool ok2]) (w' := w13) rfl (Fg.run_move rfl rfl) ?_
              simp only [Act.put, List.setIfInBounds_toArray, List.set_cons_succ, List.set_cons_zero]
              refine Fg.wpl_value (v := r2.v) (w' := w13) rfl (by go_simp <;> rfl) ?_
              simp only [Act.put, List.setIfInBounds_toArray, List.set_cons_succ, List.set_cons_zero]
              refine Fg.wpl_value (v := .bool ok2) (w' := w13) rfl (by go_simp <;> rfl) ?_
              simp only [Act.put, List.setIfInBounds_toArray, List.set_cons_succ, List.set_cons_zero]
              have k7 := H12.out.2.2.2.1.grown gw13 (by simp)
              refine Fg.wpl_skip rfl rfl (stE (a := r2) rfl rfl rfl k7 rfl) ?_
              refine Fg.wpl_value (v := .bool ok2) (w' := _) rfl (Fg.run_assign rfl rfl) ?_
              simp only [Act.put, List.setIfInBounds_toArray, List.set_cons_succ, List.set_cons_zero]
              refine wpList_nil ?_
              have m7 := storedE (a := r2) k7 rfl
              have m5 := (H12.out.2.1.grown gw13 (by simp)).setCells_other (cs := feL r2) (C := N7) 0 (by omega)
              have m6 := (H12.out.2.2.1.grown gw13 (by simp)).setCells_other (cs := feL r2) (C := N7) 0 (by omega)
              have m9 := (H12.out.2.2.2.2.1.grown gw13 (by simp)).setCells_other (cs := feL r2) (C := N7) 0 (by omega)
              have m11 := (H12.out.2.2.2.2.2.grown gw13 (by simp)).setCells_other (cs := feL r2) (C := N7) 0 (by omega)
              have mg := gb_setCells_new (cs := feL r2) (gb_trans H12.out.1 gw13) (B := N7) (by omega) 0
              clear k7 gw13
              revert mg; revert m11; revert m9; revert m7; revert m6; revert m5
              generalize World.setCells _ _ _ _ = w14
              intro m5 m6 m7 m9 m11 mg
              have H14 := Lib.hid (And.intro mg (And.intro m5 (And.intro m6 (And.intro m7 (And.intro m9 m11))))); clear m5 m6 m7 m9 m11 mg H12
              go_upto_region 12 with (fail)
              refine wp_region_flowP (fun d u _ => u = gv q b s2 ok2 d) (fun _ => 0) (fun _ _ _ => True) (B12 w2 N5 N6 N7 N9 N11 (num a.m) (num b.m) s s2 r2 q) [] (by kernel_rfl) (by kernel_rfl) (by kernel_rfl) ?_ ?_ (by kernel_rfl) ?_ ?_
              · intro ls hls h0
                have gd : w14.grownBy w14.drew none := gb_drew (gb_refl _ _)
                refine ⟨gb_trans H14.out.1 gd, H14.out.2.1.grown gd (by simp), H14.out.2.2.1.grown gd (by simp), H14.out.2.2.2.1.grown gd (by simp), H14.out.2.2.2.2.2.grown gd (by simp), ?_⟩
                rw [if_neg (by rw [h0]; decide)]
                exact H14.out.2.2.2.2.1.grown gd (by simp)
              · exact Fg.ptrs_undef rfl
              · refine ⟨v12 rfl (by decide) rfl fun ls ac w h => ?_, ?_⟩
                · have e11 : ac.tmps.getD 11 undef = .pointer (some ⟨N11, 0, none⟩) := h.rest 11 (by kernel_rfl)
                  exact ldE rfl e11 h.base.2.2.2.2.1
                refine ⟨c12 rfl (by decide) rfl 14 #[q.v] fun ls ac w h => ?_, ?_⟩
                · have e74 : ac.tmps.getD 74 undef = q.v := h.dep 74 (by kernel_rfl)
                  exact ⟨Fg.run_call rfl rfl (by simp only [List.map_toArray, List.map_cons, List.map_nil, Act.eval, e74]) (Fg.run_enter Tryd.func14 (by kernel_rfl) (by kernel_rfl)), c_from q w hqr⟩
                refine ⟨v12 rfl (by decide) rfl fun ls ac w h => ?_, ?_⟩
                · have e6 : ac.tmps.getD 6 undef = .pointer (some ⟨N6, 0, none⟩) := h.rest 6 (by kernel_rfl)
                  exact ld rfl e6 h.base.2.2.1 (num_len _) rfl rfl
                refine ⟨c12 rfl (by decide) rfl 26 #[nV (num q.m), nV (num b.m)] fun ls ac w h => ?_, ?_⟩
                · have e75 : ac.tmps.getD 75 undef = nV (num q.m) := h.dep 75 (by kernel_rfl)
                  have e76 : ac.tmps.getD 76 undef = nV (num b.m) := h.dep 76 (by kernel_rfl)
                  exact ⟨Fg.run_call rfl rfl (by simp only [List.map_toArray, List.map_cons, List.map_nil, Act.eval, e75, e76]) (Fg.run_enter Tryd.func26 (by kernel_rfl) (by kernel_rfl)), H2q.out.rr w⟩
                refine ⟨v12 rfl (by decide) rfl fun ls ac w h => ?_, ?_⟩
                · have e77 : ac.tmps.getD 77 undef = .tuple #[nV s2, .bool ok2] := h.dep 77 (by kernel_rfl)
                  exact Fg.run_move rfl e77
                refine ⟨v12 rfl (by decide) rfl fun ls ac w h => ?_, ?_⟩
                · have e73 : ac.tmps.getD 73 undef = .tuple #[nV s2, .bool ok2] := h.dep 73 (by kernel_rfl)
                  show _ = Result.ok (Next.value (nV s2)) w
                  clear h
                  simp only [execOp, Act.eval, e73]
                  go_simp
                refine ⟨v12 rfl (by decide) rfl fun ls ac w h => ?_, ?_⟩
                · have e73 : ac.tmps.getD 73 undef = .tuple #[nV s2, .bool ok2] := h.dep 73 (by kernel_rfl)
                  show _ = Result.ok (Next.value (.bool ok2)) w
                  clear h
                  simp only [execOp, Act.eval, e73]
                  go_simp
                refine ⟨flowP_store rfl fun ls ac w h => ?_, ?_⟩
                · have e9 : ac.tmps.getD 9 undef = .pointer (some ⟨N9, 0, none⟩) := h.rest 9 (by kernel_rfl)
                  have e78 : ac.tmps.getD 78 undef = nV s2 := h.dep 78 (by kernel_rfl)
                  have hb := h.base
                  have hl : (pL (if ls.getD 7 false = true then s2 else s)).length = 16 := by
                    rw [pL_len]
                    split
                    · exact H2q.out.len
                    · exact HQ.out.len
                  refine ⟨wants_none rfl, w.setCells N9 0 (pL s2), st rfl e9 e78 hb.2.2.2.2.2 hl H2q.out.len rfl, ⟨gb_setCells_new hb.1 (by omega) 0, hb.2.1.setCells_other 0 (by omega), hb.2.2.1.setCells_other 0 (by omega), hb.2.2.2.1.setCells_other 0 (by omega), hb.2.2.2.2.1.setCells_other 0 (by omega), ?_⟩, fun _ _ h => h, fun _ _ _ _ _ h => h, (gb_setCells (cs := pL s2) (gb_refl w (some N9)) 0).size, trivial⟩
                  rw [if_pos (ls_this (by rw [h.rows]; decide))]
                  exact stored hb.2.2.2.2.2 hl H2q.out.len
                refine ⟨v12 rfl (by decide) rfl fun ls ac w h => ?_, trivial⟩
                · have e79 : ac.tmps.getD 79 undef = .bool ok2 := h.dep 79 (by kernel_rfl)
                  exact Fg.run_assign rfl e79
              · intro ls ay w15 hall hB hsz hdf hrest hslots hmems hpt
                have h7 := hall 7 (by decide)
                have hb9 := hB.2.2.2.2.2
                rw [if_pos h7] at hb9
                have H15 := Lib.hid (And.intro hB.1 (And.intro hB.2.1 (And.intro hB.2.2.2.1 hb9))); clear hB hb9 h7 hall hmems
                have e10 : ay.tmps.getD 10 undef = Value.bool ok2 := hslots 10 (by kernel_rfl)
                obtain ⟨u73, e73⟩ : ∃ u, ay.tmps.getD 73 undef = u := ⟨_, rfl⟩
                obtain ⟨u74, e74⟩ : ∃ u, ay.tmps.getD 74 undef = u := ⟨_, rfl⟩
                obtain ⟨u75, e75⟩ : ∃ u, ay.tmps.getD 75 undef = u := ⟨_, rfl⟩
                obtain ⟨u76, e76⟩ : ∃ u, ay.tmps.getD 76 undef = u := ⟨_, rfl⟩
                obtain ⟨u77, e77⟩ : ∃ u, ay.tmps.getD 77 undef = u := ⟨_, rfl⟩
                have e78 : ay.tmps.getD 78 undef = nV s2 := hslots 78 (by kernel_rfl)
                have e79 : ay.tmps.getD 79 undef = Value.bool ok2 := hslots 79 (by kernel_rfl)
                obtain rfl := Fg.frame_is (a := ay) (vs := [Value.agg #[Value.int IntKind.u64 a.x0, Value.int IntKind.u64 a.x1, Value.int IntKind.u64 a.x2, Value.int IntKind.u64 a.x3, Value.int IntKind.u64 a.x4], Value.agg #[Value.int IntKind.u64 b.x0, Value.int IntKind.u64 b.x1, Value.int IntKind.u64 b.x2, Value.int IntKind.u64 b.x3, Value.int IntKind.u64 b.x4], Value.pointer (some ⟨w0.heap.size, 0, none⟩), Value.pointer (some ⟨w0.heap.size + 1, 0, none⟩), Value.bool false, Value.pointer (some ⟨N5, 0, none⟩), Value.pointer (some ⟨N6, 0, none⟩), Value.pointer (some ⟨N7, 0, none⟩), Value.bool ok2, Value.pointer (some ⟨N9, 0, none⟩), Value.bool ok2, Value.pointer (some ⟨N11, 0, none⟩), Value.agg #[Value.int IntKind.u64 a.x0, Value.int IntKind.u64 a.x1, Value.int IntKind.u64 a.x2, Value.int IntKind.u64 a.x3, Value.int IntKind.u64 a.x4], Value.bool true, Value.bool false, Value.bool false, Value.agg #[Value.int IntKind.u64 b.x0, Value.int IntKind.u64 b.x1, Value.int IntKind.u64 b.x2, Value.int IntKind.u64 b.x3, Value.int IntKind.u64 b.x4], Value.bool true, Value.bool false, Value.bool false, undef, undef, undef, undef, undef, undef, u26, nV (num a.m), u28, nV (num b.m), Value.tuple #[r.v, Value.bool true], a.v, b.v, Value.tuple #[r.v, Value.bool true], r.v, Value.bool true, Value.tuple #[nV s, Value.bool true], nV (num a.m), nV (num b.m), Value.tuple #[nV s, Value.bool true], nV s, Value.bool true, u42, u43, u44, u45, u46, u47, u48, u49, u50, u51, u52, u53, u54, u55, u56, u57, u58, u59, u60, u61, Value.bool false, u63, u64, u65, q.v, Value.tuple #[r2.v, Value.bool ok2], q.v, b.v, Value.tuple #[r2.v, Value.bool ok2], r2.v, Value.bool ok2, u73, u74, u75, u76, u77, nV s2, Value.bool ok2, undef, undef, undef, undef, undef, undef, undef, undef, undef, undef, undef, undef, undef, undef, undef, undef, undef, undef, undef, undef, undef, undef]) hsz ⟨hrest 0 (by kernel_rfl), hrest 1 (by kernel_rfl), hrest 2 (by kernel_rfl), hrest 3 (by kernel_rfl), hrest 4 (by kernel_rfl), hrest 5 (by kernel_rfl), hrest 6 (by kernel_rfl), hrest 7 (by kernel_rfl), hrest 8 (by kernel_rfl), hrest 9 (by kernel_rfl), e10, hrest 11 (by kernel_rfl), hrest 12 (by kernel_rfl), hrest 13 (by kernel_rfl), hrest 14 (by kernel_rfl), hrest 15 (by kernel_rfl), hrest 16 (by kernel_rfl), hrest 17 (by kernel_rfl), hrest 18 (by kernel_rfl), hrest 19 (by kernel_rfl), hrest 20 (by kernel_rfl), hrest 21 (by kernel_rfl), hrest 22 (by kernel_rfl), hrest 23 (by kernel_rfl), hrest 24 (by kernel_rfl), hrest 25 (by kernel_rfl), hrest 26 (by kernel_rfl), hrest 27 (by kernel_rfl), hrest 28 (by kernel_rfl), hrest 29 (by kernel_rfl), hrest 30 (by kernel_rfl), hrest 31 (by kernel_rfl), hrest 32 (by kernel_rfl), hrest 33 (by kernel_rfl), hrest 34 (by kernel_rfl), hrest 35 (by kernel_rfl), hrest 36 (by kernel_rfl), hrest 37 (by kernel_rfl), hrest 38 (by kernel_rfl), hrest 39 (by kernel_rfl), hrest 40 (by kernel_rfl), hrest 41 (by kernel_rfl), hrest 42 (by kernel_rfl), hrest 43 (by kernel_rfl), hrest 44 (by kernel_rfl), hrest 45 (by kernel_rfl), hrest 46 (by kernel_rfl), hrest 47 (by kernel_rfl), hrest 48 (by kernel_rfl), hrest 49 (by kernel_rfl), hrest 50 (by kernel_rfl), hrest 51 (by kernel_rfl), hrest 52 (by kernel_rfl), hrest 53 (by kernel_rfl), hrest 54 (by kernel_rfl), hrest 55 (by kernel_rfl), hrest 56 (by kernel_rfl), hrest 57 (by kernel_rfl), hrest 58 (by kernel_rfl), hrest 59 (by kernel_rfl), hrest 60 (by kernel_rfl), hrest 61 (by kernel_rfl), hrest 62 (by kernel_rfl), hrest 63 (by kernel_rfl), hrest 64 (by kernel_rfl), hrest 65 (by kernel_rfl), hrest 66 (by kernel_rfl), hrest 67 (by kernel_rfl), hrest 68 (by kernel_rfl), hrest 69 (by kernel_rfl), hrest 70 (by kernel_rfl), hrest 71 (by kernel_rfl), hrest 72 (by kernel_rfl), e73, e74, e75, e76, e77, e78, e79, hrest 80 (by kernel_rfl), hrest 81 (by kernel_rfl), hrest 82 (by kernel_rfl), hrest 83 (by kernel_rfl), hrest 84 (by kernel_rfl), hrest 85 (by kernel_rfl), hrest 86 (by kernel_rfl), hrest 87 (by kernel_rfl), hrest 88 (by kernel_rfl), hrest 89 (by kernel_rfl), hrest 90 (by kernel_rfl), hrest 91 (by kernel_rfl), hrest 92 (by kernel_rfl), hrest 93 (by kernel_rfl), hrest 94 (by kernel_rfl), hrest 95 (by kernel_rfl), hrest 96 (by kernel_rfl), hrest 97 (by kernel_rfl), hrest 98 (by kernel_rfl), hrest 99 (by kernel_rfl), hrest 100 (by kernel_rfl), hrest 101 (by kernel_rfl), trivial⟩ hdf
                clear hsz hdf hrest hslots hpt e10 e73 e74 e75 e76 e77 e78 e79
                dsimp only
                clear H14
                cases ok2 with
                | true =>
                  go_upto_region 13 with (fail)
                  refine Fg.region_t [] [.any, .any, .any, .any, .any, .any, .any, .any, .any, .any, .any, .any, .any, .any, .any, .any, .any, .any, .any, .any, .any, .any, .any, .any, .any, .any, .any, .any, .any, .any, .any, .any, .any, .any, .any, .any, .any, .any, .any, .any, .any, .any, .any, .any, .any, .any, .any, .any, .any, .any, .any, .any, .any, .any, .any, .any, .any, .any, .any, .any, .any, .any, .any, .any, .any, .any, .any, .any, .any, .any, .any, .any, .any, .any, .any, .any, .any, .any, .any, .any, .val (Value.bool true), .val (Value.bool true), .val (Value.bool true), .val (Value.bool true), .val (a.v), .val ((invF a).v), .val (nV (num a.m)), .val (nV (rU (num a.m))), .val (Value.bool true), .val (Value.bool true), .val (Value.bool true), .val (Value.bool true), .val (Value.bool false), .val (Value.bool false), .val (r2.v), .val (nV s2), .val (Value.bool true), .val (Value.bool true), .val (Value.bool true), .val (Value.bool true), .val (Value.bool true), .val (Value.bool true)] w15 22 (gb_refl _ _) (by kernel_rfl) (by kernel_rfl) (by kernel_rfl) (by kernel_rfl) (by decide) (by kernel_rfl) ?_ ?_
                  · refine ⟨Fg.vT rfl (by decide) fun ac w h => ?_, ?_⟩
                    · have e8 : ac.tmps.getD 8 undef = Value.bool true := h.rest 8 (by kernel_rfl)
                      exact ⟨_, w, wants_none rfl, Fg.run_move rfl e8, gb_refl _ _, rfl⟩
                    refine ⟨Fg.vT rfl (by decide) fun ac w h => ?_, ?_⟩
                    · have e10 : ac.tmps.getD 10 undef = Value.bool true := h.rest 10 (by kernel_rfl)
                      exact ⟨_, w, wants_none rfl, Fg.run_move rfl e10, gb_refl _ _, rfl⟩
                    refine ⟨Fg.vT rfl (by decide) fun ac w h => ?_, ?_⟩
                    · have e80 : ac.tmps.getD 80 undef = Value.bool true := h.dep 80 (by kernel_rfl)
                      have e81 : ac.tmps.getD 81 undef = Value.bool true := h.dep 81 (by kernel_rfl)
                      refine ⟨.bool true, w, wants_none rfl, ?_, gb_refl _ _, rfl⟩
                      exact run_eqB rfl e80 e81
                    refine ⟨Fg.vT rfl (by decide) fun ac w h => ?_, ?_⟩
                    · have e82 : ac.tmps.getD 82 undef = Value.bool true := h.dep 82 (by kernel_rfl)
                      exact ⟨_, w, wants_none rfl, Fg.run_move rfl e82, gb_refl _ _, rfl⟩
                    refine ⟨Fg.vT rfl (by decide) fun ac w h => ?_, ?_⟩
                    · have e83 : ac.tmps.getD 83 undef = Value.bool true := h.dep 83 (by kernel_rfl)
                      have e2 : ac.tmps.getD 2 undef = Value.pointer (some ⟨w0.heap.size, 0, none⟩) := h.rest 2 (by kernel_rfl)
                      refine ⟨a.v, w, wants_some (d := 83) rfl rfl (by rw [h.size]; show 83 < 102; decide) e83, ?_, gb_refl _ _, rfl⟩
                      exact ldE rfl e2 (HB.out.1 w (gb_trans H15.out.1 h.base))
                    refine ⟨Fg.cT rfl (by decide) fun ac w h => ?_, ?_⟩
                    · have e83 : ac.tmps.getD 83 undef = Value.bool true := h.dep 83 (by kernel_rfl)
                      have e84 : ac.tmps.getD 84 undef = a.v := h.dep 84 (by kernel_rfl)
                      refine ⟨24, #[a.v], wants_some (d := 83) rfl rfl (by rw [h.size]; show 83 < 102; decide) e83, Fg.run_call rfl rfl (by simp only [List.map_toArray, List.map_cons, List.map_nil, Act.eval, e84]) (Fg.run_enter Tryd.func24 (by kernel_rfl) (by kernel_rfl)), ?_⟩
                      exact (c_inv a w HO.out.1).mono fun _ _ ⟨he, hg⟩ => ⟨_, he, hg, rfl⟩
                    refine ⟨Fg.vT rfl (by decide) fun ac w h => ?_, ?_⟩
                    · have e83 : ac.tmps.getD 83 undef = Value.bool true := h.dep 83 (by kernel_rfl)
                      have e5 : ac.tmps.getD 5 undef = Value.pointer (some ⟨N5, 0, none⟩) := h.rest 5 (by kernel_rfl)
                      refine ⟨nV (num a.m), w, wants_some (d := 83) rfl rfl (by rw [h.size]; show 83 < 102; decide) e83, ?_, gb_refl _ _, rfl⟩
                      exact ld rfl e5 (H15.out.2.1.grown h.base (by simp)) (num_len _) rfl rfl
                    refine ⟨Fg.cT rfl (by decide) fun ac w h => ?_, ?_⟩
                    · have e83 : ac.tmps.getD 83 undef = Value.bool true := h.dep 83 (by kernel_rfl)
                      have e86 : ac.tmps.getD 86 undef = nV (num a.m) := h.dep 86 (by kernel_rfl)
                      refine ⟨27, #[nV (num a.m)], wants_some (d := 83) rfl rfl (by rw [h.size]; show 83 < 102; decide) e83, Fg.run_call rfl rfl (by simp only [List.map_toArray, List.map_cons, List.map_nil, Act.eval, e86]) (Fg.run_enter Tryd.func27 (by kernel_rfl) (by kernel_rfl)), ?_⟩
                      exact (c_rinv a w).mono fun _ _ ⟨he, hg⟩ => ⟨_, he, hg, rfl⟩
                    refine ⟨Fg.cT rfl (by decide) fun ac w h => ?_, ?_⟩
                    · have e83 : ac.tmps.getD 83 undef = Value.bool true := h.dep 83 (by kernel_rfl)
                      have e85 : ac.tmps.getD 85 undef = (invF a).v := h.dep 85 (by kernel_rfl)
                      have e87 : ac.tmps.getD 87 undef = nV (rU (num a.m)) := h.dep 87 (by kernel_rfl)
                      refine ⟨15, #[(invF a).v, nV (rU (num a.m))], wants_some (d := 83) rfl rfl (by rw [h.size]; show 83 < 102; decide) e83, Fg.run_call rfl rfl (by simp only [List.map_toArray, List.map_cons, List.map_nil, Act.eval, e85, e87]) (Fg.run_enter Tryd.func15 (by kernel_rfl) (by kernel_rfl)), ?_⟩
                      exact (is_inv w hRa).mono fun _ _ ⟨he, hg⟩ => ⟨_, he, hg, rfl⟩
                    refine ⟨Fg.vT rfl (by decide) fun ac w h => ?_, ?_⟩
                    · have e83 : ac.tmps.getD 83 undef = Value.bool true := h.dep 83 (by kernel_rfl)
                      have e88 : ac.tmps.getD 88 undef = Value.bool true := h.dep 88 (by kernel_rfl)
                      refine ⟨Value.bool true, w, wants_none rfl, ?_, gb_refl _ _, rfl⟩
                      clear h
                      simp only [execOp, Act.eval, e83, e88]
                      go_simp
                    refine ⟨Fg.vT rfl (by decide) fun ac w h => ?_, ?_⟩
                    · have e89 : ac.tmps.getD 89 undef = Value.bool true := h.dep 89 (by kernel_rfl)
                      exact ⟨_, w, wants_none rfl, Fg.run_move rfl e89, gb_refl _ _, rfl⟩
                    refine ⟨Fg.vT rfl (by decide) fun ac w h => ?_, ?_⟩
                    · have e90 : ac.tmps.getD 90 undef = Value.bool true := h.dep 90 (by kernel_rfl)
                      have e8 : ac.tmps.getD 8 undef = Value.bool true := h.rest 8 (by kernel_rfl)
                      exact ⟨_, w, wants_some (d := 90) rfl rfl (by rw [h.size]; show 90 < 102; decide) e90, Fg.run_move rfl e8, gb_refl _ _, rfl⟩
                    refine ⟨Fg.vT rfl (by decide) fun ac w h => ?_, ?_⟩
                    · have e90 : ac.tmps.getD 90 undef = Value.bool true := h.dep 90 (by kernel_rfl)
                      have e91 : ac.tmps.getD 91 undef = Value.bool true := h.dep 91 (by kernel_rfl)
                      refine ⟨Value.bool false, w, wants_some (d := 90) rfl rfl (by rw [h.size]; show 90 < 102; decide) e90, ?_, gb_refl _ _, rfl⟩
                      clear h
                      simp only [execOp, Act.eval, e91]
                      go_simp
                    refine ⟨Fg.vT rfl (by decide) fun ac w h => ?_, ?_⟩
                    · have e90 : ac.tmps.getD 90 undef = Value.bool true := h.dep 90 (by kernel_rfl)
                      have e92 : ac.tmps.getD 92 undef = Value.bool false := h.dep 92 (by kernel_rfl)
                      exact ⟨_, w, wants_some (d := 90) rfl rfl (by rw [h.size]; show 90 < 102; decide) e90, Fg.run_move rfl e92, gb_refl _ _, rfl⟩
                    refine ⟨Fg.vT rfl (by decide) fun ac w h => ?_, ?_⟩
                    · have e93 : ac.tmps.getD 93 undef = Value.bool false := h.dep 93 (by kernel_rfl)
                      have e7 : ac.tmps.getD 7 undef = Value.pointer (some ⟨N7, 0, none⟩) := h.rest 7 (by kernel_rfl)
                      refine ⟨r2.v, w, wants_some (d := 93) rfl rfl (by rw [h.size]; show 93 < 102; decide) e93, ?_, gb_refl _ _, rfl⟩
                      exact ldE rfl e7 (H15.out.2.2.1.grown h.base (by simp))
                    refine ⟨Fg.vT rfl (by decide) fun ac w h => ?_, ?_⟩
                    · have e93 : ac.tmps.getD 93 undef = Value.bool false := h.dep 93 (by kernel_rfl)
                      have e9 : ac.tmps.getD 9 undef = Value.pointer (some ⟨N9, 0, none⟩) := h.rest 9 (by kernel_rfl)
                      refine ⟨nV s2, w, wants_some (d := 93) rfl rfl (by rw [h.size]; show 93 < 102; decide) e93, ?_, gb_refl _ _, rfl⟩
                      exact ld rfl e9 (H15.out.2.2.2.grown h.base (by simp)) H2q.out.len rfl rfl
                    refine ⟨Fg.cT rfl (by decide) fun ac w h => ?_, ?_⟩
                    · have e93 : ac.tmps.getD 93 undef = Value.bool false := h.dep 93 (by kernel_rfl)
                      have e94 : ac.tmps.getD 94 undef = r2.v := h.dep 94 (by kernel_rfl)
                      have e95 : ac.tmps.getD 95 undef = nV s2 := h.dep 95 (by kernel_rfl)
                      refine ⟨15, #[r2.v, nV s2], wants_some (d := 93) rfl rfl (by rw [h.size]; show 93 < 102; decide) e93, Fg.run_call rfl rfl (by simp only [List.map_toArray, List.map_cons, List.map_nil, Act.eval, e94, e95]) (Fg.run_enter Tryd.func15 (by kernel_rfl) (by kernel_rfl)), ?_⟩
                      exact (H2q.out.yes rfl w).mono fun _ _ ⟨he, hg⟩ => ⟨_, he, hg, rfl⟩
                    refine ⟨Fg.vT rfl (by decide) fun ac w h => ?_, ?_⟩
                    · have e90 : ac.tmps.getD 90 undef = Value.bool true := h.dep 90 (by kernel_rfl)
                      have e93 : ac.tmps.getD 93 undef = Value.bool false := h.dep 93 (by kernel_rfl)
                      have e96 : ac.tmps.getD 96 undef = Value.bool true := h.dep 96 (by kernel_rfl)
                      refine ⟨Value.bool true, w, wants_some (d := 90) rfl rfl (by rw [h.size]; show 90 < 102; decide) e90, ?_, gb_refl _ _, rfl⟩
                      clear h
                      simp only [execOp, Act.eval, e93, e96]
                      go_simp
                    refine ⟨Fg.vT rfl (by decide) fun ac w h => ?_, ?_⟩
                    · have e90 : ac.tmps.getD 90 undef = Value.bool true := h.dep 90 (by kernel_rfl)
                      have e97 : ac.tmps.getD 97 undef = Value.bool true := h.dep 97 (by kernel_rfl)
                      refine ⟨Value.bool true, w, wants_none rfl, ?_, gb_refl _ _, rfl⟩
                      clear h
                      simp only [execOp, Act.eval, e90, e97]
                      go_simp
                    refine ⟨Fg.vT rfl (by decide) fun ac w h => ?_, ?_⟩
                    · have e98 : ac.tmps.getD 98 undef = Value.bool true := h.dep 98 (by kernel_rfl)
                      exact ⟨_, w, wants_none rfl, Fg.run_move rfl e98, gb_refl _ _, rfl⟩
                    refine ⟨Fg.cT rfl (by decide) fun ac w h => ?_, ?_⟩
                    · have e99 : ac.tmps.getD 99 undef = Value.bool true := h.dep 99 (by kernel_rfl)
                      refine ⟨13, #[], wants_some (d := 99) rfl rfl (by rw [h.size]; show 99 < 102; decide) e99, Fg.run_call rfl rfl (by simp only [List.map_toArray, List.map_nil]) (Fg.run_enter Tryd.func13 (by kernel_rfl) (by kernel_rfl)), ?_⟩
                      exact (awake_any w (HT.out.grown (gb_trans H2.out.1 (gb_trans H15.out.1 h.base)))).mono fun _ _ ⟨he, hg⟩ => ⟨_, he, hg, rfl⟩
                    refine ⟨Fg.vT rfl (by decide) fun ac w h => ?_, ?_⟩
                    · have e99 : ac.tmps.getD 99 undef = Value.bool true := h.dep 99 (by kernel_rfl)
                      have e100 : ac.tmps.getD 100 undef = Value.bool true := h.dep 100 (by kernel_rfl)
                      refine ⟨Value.bool true, w, wants_none rfl, ?_, gb_refl _ _, rfl⟩
                      clear h
                      simp only [execOp, Act.eval, e99, e100]
                      go_simp
                    trivial
                  · intro az wz hB hsz hdf hrest hslots hpt
                    obtain ⟨u80, e80⟩ : ∃ u, az.tmps.getD 80 undef = u := ⟨_, rfl⟩
                    obtain ⟨u81, e81⟩ : ∃ u, az.tmps.getD 81 undef = u := ⟨_, rfl⟩
                    obtain ⟨u82, e82⟩ : ∃ u, az.tmps.getD 82 undef = u := ⟨_, rfl⟩
                    obtain ⟨u83, e83⟩ : ∃ u, az.tmps.getD 83 undef = u := ⟨_, rfl⟩
                    obtain ⟨u84, e84⟩ : ∃ u, az.tmps.getD 84 undef = u := ⟨_, rfl⟩
                    obtain ⟨u85, e85⟩ : ∃ u, az.tmps.getD 85 undef = u := ⟨_, rfl⟩
                    obtain ⟨u86, e86⟩ : ∃ u, az.tmps.getD 86 undef = u := ⟨_, rfl⟩
                    obtain ⟨u87, e87⟩ : ∃ u, az.tmps.getD 87 undef = u := ⟨_, rfl⟩
                    obtain ⟨u88, e88⟩ : ∃ u, az.tmps.getD 88 undef = u := ⟨_, rfl⟩
                    obtain ⟨u89, e89⟩ : ∃ u, az.tmps.getD 89 undef = u := ⟨_, rfl⟩
                    obtain ⟨u90, e90⟩ : ∃ u, az.tmps.getD 90 undef = u := ⟨_, rfl⟩
                    obtain ⟨u91, e91⟩ : ∃ u, az.tmps.getD 91 undef = u := ⟨_, rfl⟩
                    obtain ⟨u92, e92⟩ : ∃ u, az.tmps.getD 92 undef = u := ⟨_, rfl⟩
                    obtain ⟨u93, e93⟩ : ∃ u, az.tmps.getD 93 undef = u := ⟨_, rfl⟩
                    obtain ⟨u94, e94⟩ : ∃ u, az.tmps.getD 94 undef = u := ⟨_, rfl⟩
                    obtain ⟨u95, e95⟩ : ∃ u, az.tmps.getD 95 undef = u := ⟨_, rfl⟩
                    obtain ⟨u96, e96⟩ : ∃ u, az.tmps.getD 96 undef = u := ⟨_, rfl⟩
                    obtain ⟨u97, e97⟩ : ∃ u, az.tmps.getD 97 undef = u := ⟨_, rfl⟩
                    obtain ⟨u98, e98⟩ : ∃ u, az.tmps.getD 98 undef = u := ⟨_, rfl⟩
                    obtain ⟨u99, e99⟩ : ∃ u, az.tmps.getD 99 undef = u := ⟨_, rfl⟩
                    obtain ⟨u100, e100⟩ : ∃ u, az.tmps.getD 100 undef = u := ⟨_, rfl⟩
                    have e101 : az.tmps.getD 101 undef = Value.bool true := hslots 101 (by kernel_rfl)
                    obtain rfl := Fg.frame_is (a := az) (vs := [Value.agg #[Value.int IntKind.u64 a.x0, Value.int IntKind.u64 a.x1, Value.int IntKind.u64 a.x2, Value.int IntKind.u64 a.x3, Value.int IntKind.u64 a.x4], Value.agg #[Value.int IntKind.u64 b.x0, Value.int IntKind.u64 b.x1, Value.int IntKind.u64 b.x2, Value.int IntKind.u64 b.x3, Value.int IntKind.u64 b.x4], Value.pointer (some ⟨w0.heap.size, 0, none⟩), Value.pointer (some ⟨w0.heap.size + 1, 0, none⟩), Value.bool false, Value.pointer (some ⟨N5, 0, none⟩), Value.pointer (some ⟨N6, 0, none⟩), Value.pointer (some ⟨N7, 0, none⟩), Value.bool true, Value.pointer (some ⟨N9, 0, none⟩), Value.bool true, Value.pointer (some ⟨N11, 0, none⟩), Value.agg #[Value.int IntKind.u64 a.x0, Value.int IntKind.u64 a.x1, Value.int IntKind.u64 a.x2, Value.int IntKind.u64 a.x3, Value.int IntKind.u64 a.x4], Value.bool true, Value.bool false, Value.bool false, Value.agg #[Value.int IntKind.u64 b.x0, Value.int IntKind.u64 b.x1, Value.int IntKind.u64 b.x2, Value.int IntKind.u64 b.x3, Value.int IntKind.u64 b.x4], Value.bool true, Value.bool false, Value.bool false, undef, undef, undef, undef, undef, undef, u26, nV (num a.m), u28, nV (num b.m), Value.tuple #[r.v, Value.bool true], a.v, b.v, Value.tuple #[r.v, Value.bool true], r.v, Value.bool true, Value.tuple #[nV s, Value.bool true], nV (num a.m), nV (num b.m), Value.tuple #[nV s, Value.bool true], nV s, Value.bool true, u42, u43, u44, u45, u46, u47, u48, u49, u50, u51, u52, u53, u54, u55, u56, u57, u58, u59, u60, u61, Value.bool false, u63, u64, u65, q.v, Value.tuple #[r2.v, Value.bool true], q.v, b.v, Value.tuple #[r2.v, Value.bool true], r2.v, Value.bool true, u73, u74, u75, u76, u77, nV s2, Value.bool true, u80, u81, u82, u83, u84, u85, u86, u87, u88, u89, u90, u91, u92, u93, u94, u95, u96, u97, u98, u99, u100, Value.bool true]) hsz ⟨hrest 0 (by kernel_rfl), hrest 1 (by kernel_rfl), hrest 2 (by kernel_rfl), hrest 3 (by kernel_rfl), hrest 4 (by kernel_rfl), hrest 5 (by kernel_rfl), hrest 6 (by kernel_rfl), hrest 7 (by kernel_rfl), hrest 8 (by kernel_rfl), hrest 9 (by kernel_rfl), hrest 10 (by kernel_rfl), hrest 11 (by kernel_rfl), hrest 12 (by kernel_rfl), hrest 13 (by kernel_rfl), hrest 14 (by kernel_rfl), hrest 15 (by kernel_rfl), hrest 16 (by kernel_rfl), hrest 17 (by kernel_rfl), hrest 18 (by kernel_rfl), hrest 19 (by kernel_rfl), hrest 20 (by kernel_rfl), hrest 21 (by kernel_rfl), hrest 22 (by kernel_rfl), hrest 23 (by kernel_rfl), hrest 24 (by kernel_rfl), hrest 25 (by kernel_rfl), hrest 26 (by kernel_rfl), hrest 27 (by kernel_rfl), hrest 28 (by kernel_rfl), hrest 29 (by kernel_rfl), hrest 30 (by kernel_rfl), hrest 31 (by kernel_rfl), hrest 32 (by kernel_rfl), hrest 33 (by kernel_rfl), hrest 34 (by kernel_rfl), hrest 35 (by kernel_rfl), hrest 36 (by kernel_rfl), hrest 37 (by kernel_rfl), hrest 38 (by kernel_rfl), hrest 39 (by kernel_rfl), hrest 40 (by kernel_rfl), hrest 41 (by kernel_rfl), hrest 42 (by kernel_rfl), hrest 43 (by kernel_rfl), hrest 44 (by kernel_rfl), hrest 45 (by kernel_rfl), hrest 46 (by kernel_rfl), hrest 47 (by kernel_rfl), hrest 48 (by kernel_rfl), hrest 49 (by kernel_rfl), hrest 50 (by kernel_rfl), hrest 51 (by kernel_rfl), hrest 52 (by kernel_rfl), hrest 53 (by kernel_rfl), hrest 54 (by kernel_rfl), hrest 55 (by kernel_rfl), hrest 56 (by kernel_rfl), hrest 57 (by kernel_rfl), hrest 58 (by kernel_rfl), hrest 59 (by kernel_rfl), hrest 60 (by kernel_rfl), hrest 61 (by kernel_rfl), hrest 62 (by kernel_rfl), hrest 63 (by kernel_rfl), hrest 64 (by kernel_rfl), hrest 65 (by kernel_rfl), hrest 66 (by kernel_rfl), hrest 67 (by kernel_rfl), hrest 68 (by kernel_rfl), hrest 69 (by kernel_rfl), hrest 70 (by kernel_rfl), hrest 71 (by kernel_rfl), hrest 72 (by kernel_rfl), hrest 73 (by kernel_rfl), hrest 74 (by kernel_rfl), hrest 75 (by kernel_rfl), hrest 76 (by kernel_rfl), hrest 77 (by kernel_rfl), hrest 78 (by kernel_rfl), hrest 79 (by kernel_rfl), e80, e81, e82, e83, e84, e85, e86, e87, e88, e89, e90, e91, e92, e93, e94, e95, e96, e97, e98, e99, e100, e101, trivial⟩ hdf
                    clear hsz hdf hrest hslots hpt e80 e81 e82 e83 e84 e85 e86 e87 e88 e89 e90 e91 e92 e93 e94 e95 e96 e97 e98 e99 e100 e101
                    dsimp only
                    refine Fg.wpl_value (v := .bool true) (w' := wz) rfl (Fg.run_assign rfl rfl) ?_
                    simp only [Act.put, List.setIfInBounds_toArray, List.set_cons_succ, List.set_cons_zero]
                    refine wpList_nil ?_
                    have HF := Lib.hid (gb_trans (gb_trans H2.out.1 H15.out.1) hB); clear hB
                    go_wp2
                    go_ret
                    exact ⟨rfl, HF.out⟩
                | false =>
                  go_upto_region 13 with (fail)
                  refine Fg.region_t [] [.any, .any, .any, .any, .any, .any, .any, .any, .any, .any, .any, .any, .any, .any, .any, .any, .any, .any, .any, .any, .any, .any, .any, .any, .any, .any, .any, .any, .any, .any, .any, .any, .any, .any, .any, .any, .any, .any, .any, .any, .any, .any, .any, .any, .any, .any, .any, .any, .any, .any, .any, .any, .any, .any, .any, .any, .any, .any, .any, .any, .any, .any, .any, .any, .any, .any, .any, .any, .any, .any, .any, .any, .any, .any, .any, .any, .any, .any, .any, .any, .val (Value.bool false), .val (Value.bool false), .val (Value.bool true), .val (Value.bool true), .val (a.v), .val ((invF a).v), .val (nV (num a.m)), .val (nV (rU (num a.m))), .val (Value.bool true), .val (Value.bool true), .val (Value.bool true), .val (Value.bool false), .val (Value.bool true), .val (Value.bool true), .val undef, .val undef, .val undef, .val (Value.bool true), .val (Value.bool true), .val (Value.bool true), .val (Value.bool true), .val (Value.bool true)] w15 22 (gb_refl _ _) (by kernel_rfl) (by kernel_rfl) (by kernel_rfl) (by kernel_rfl) (by decide) (by kernel_rfl) ?_ ?_
                  · refine ⟨Fg.vT rfl (by decide) fun ac w h => ?_, ?_⟩
                    · have e8 : ac.tmps.getD 8 undef = Value.bool false := h.rest 8 (by kernel_rfl)
                      exact ⟨_, w, wants_none rfl, Fg.run_move rfl e8, gb_refl _ _, rfl⟩
                    refine ⟨Fg.vT rfl (by decide) fun ac w h => ?_, ?_⟩
                    · have e10 : ac.tmps.getD 10 undef = Value.bool false := h.rest 10 (by kernel_rfl)
                      exact ⟨_, w, wants_none rfl, Fg.run_move rfl e10, gb_refl _ _, rfl⟩
                    refine ⟨Fg.vT rfl (by decide) fun ac w h => ?_, ?_⟩
                    · have e80 : ac.tmps.getD 80 undef = Value.bool false := h.dep 80 (by kernel_rfl)
                      have e81 : ac.tmps.getD 81 undef = Value.bool false := h.dep 81 (by kernel_rfl)
                      refine ⟨.bool true, w, wants_none rfl, ?_, gb_refl _ _, rfl⟩
                      exact run_eqB rfl e80 e81
                    refine ⟨Fg.vT rfl (by decide) fun ac w h => ?_, ?_⟩
                    · have e82 : ac.tmps.getD 82 undef = Value.bool true := h.dep 82 (by kernel_rfl)
                      exact ⟨_, w, wants_none rfl, Fg.run_move rfl e82, gb_refl _ _, rfl⟩
                    refine ⟨Fg.vT rfl (by decide) fun ac w h => ?_, ?_⟩
                    · have e83 : ac.tmps.getD 83 undef = Value.bool true := h.dep 83 (by kernel_rfl)
                      have e2 : ac.tmps.getD 2 undef = Value.pointer (some ⟨w0.heap.size, 0, none⟩) := h.rest 2 (by kernel_rfl)
                      refine ⟨a.v, w, wants_some (d := 83) rfl rfl (by rw [h.size]; show 83 < 102; decide) e83, ?_, gb_refl _ _, rfl⟩
                      exact ldE rfl e2 (HB.out.1 w (gb_trans H15.out.1 h.base))
                    refine ⟨Fg.cT rfl (by decide) fun ac w h => ?_, ?_⟩
                    · have e83 : ac.tmps.getD 83 undef = Value.bool true := h.dep 83 (by kernel_rfl)
                      have e84 : ac.tmps.getD 84 undef = a.v := h.dep 84 (by kernel_rfl)
                      refine ⟨24, #[a.v], wants_some (d := 83) rfl rfl (by rw [h.size]; show 83 < 102; decide) e83, Fg.run_call rfl rfl (by simp only [List.map_toArray, List.map_cons, List.map_nil, Act.eval, e84]) (Fg.run_enter Tryd.func24 (by kernel_rfl) (by kernel_rfl)), ?_⟩
                      exact (c_inv a w HO.out.1).mono fun _ _ ⟨he, hg⟩ => ⟨_, he, hg, rfl⟩
                    refine ⟨Fg.vT rfl (by decide) fun ac w h => ?_, ?_⟩
                    · have e83 : ac.tmps.getD 83 undef = Value.bool true := h.dep 83 (by kernel_rfl)
                      have e5 : ac.tmps.getD 5 undef = Value.pointer (some ⟨N5, 0, none⟩) := h.rest 5 (by kernel_rfl)
                      refine ⟨nV (num a.m), w, wants_some (d := 83) rfl rfl (by rw [h.size]; show 83 < 102; decide) e83, ?_, gb_refl _ _, rfl⟩
                      exact ld rfl e5 (H15.out.2.1.grown h.base (by simp)) (num_len _) rfl rfl
                    refine ⟨Fg.cT rfl (by decide) fun ac w h => ?_, ?_⟩
                    · have e83 : ac.tmps.getD 83 undef = Value.bool true := h.dep 83 (by kernel_rfl)
                      have e86 : ac.tmps.getD 86 undef = nV (num a.m) := h.dep 86 (by kernel_rfl)
                      refine ⟨27, #[nV (num a.m)], wants_some (d := 83) rfl rfl (by rw [h.size]; show 83 < 102; decide) e83, Fg.run_call rfl rfl (by simp only [List.map_toArray, List.map_cons, List.map_nil, Act.eval, e86]) (Fg.run_enter Tryd.func27 (by kernel_rfl) (by kernel_rfl)), ?_⟩
                      exact (c_rinv a w).mono fun _ _ ⟨he, hg⟩ => ⟨_, he, hg, rfl⟩
                    refine ⟨Fg.cT rfl (by decide) fun ac w h => ?_, ?_⟩
                    · have e83 : ac.tmps.getD 83 undef = Value.bool true := h.dep 83 (by kernel_rfl)
                      have e85 : ac.tmps.getD 85 undef = (invF a).v := h.dep 85 (by kernel_rfl)
                      have e87 : ac.tmps.getD 87 undef = nV (rU (num a.m)) := h.dep 87 (by kernel_rfl)
                      refine ⟨15, #[(invF a).v, nV (rU (num a.m))], wants_some (d := 83) rfl rfl (by rw [h.size]; show 83 < 102; decide) e83, Fg.run_call rfl rfl (by simp only [List.map_toArray, List.map_cons, List.map_nil, Act.eval, e85, e87]) (Fg.run_enter Tryd.func15 (by kernel_rfl) (by kernel_rfl)), ?_⟩
                      exact (is_inv w hRa).mono fun _ _ ⟨he, hg⟩ => ⟨_, he, hg, rfl⟩
                    refine ⟨Fg.vT rfl (by decide) fun ac w h => ?_, ?_⟩
                    · have e83 : ac.tmps.getD 83 undef = Value.bool true := h.dep 83 (by kernel_rfl)
                      have e88 : ac.tmps.getD 88 undef = Value.bool true := h.dep 88 (by kernel_rfl)
                      refine ⟨Value.bool true, w, wants_none rfl, ?_, gb_refl _ _, rfl⟩
                      clear h
                      simp only [execOp, Act.eval, e83, e88]
                      go_simp
                    refine ⟨Fg.vT rfl (by decide) fun ac w h => ?_, ?_⟩
                    · have e89 : ac.tmps.getD 89 undef = Value.bool true := h.dep 89 (by kernel_rfl)
                      exact ⟨_, w, wants_none rfl, Fg.run_move rfl e89, gb_refl _ _, rfl⟩
                    refine ⟨Fg.vT rfl (by decide) fun ac w h => ?_, ?_⟩
                    · have e90 : ac.tmps.getD 90 undef = Value.bool true := h.dep 90 (by kernel_rfl)
                      have e8 : ac.tmps.getD 8 undef = Value.bool false := h.rest 8 (by kernel_rfl)
                      exact ⟨_, w, wants_some (d := 90) rfl rfl (by rw [h.size]; show 90 < 102; decide) e90, Fg.run_move rfl e8, gb_refl _ _, rfl⟩
                    refine ⟨Fg.vT rfl (by decide) fun ac w h => ?_, ?_⟩
                    · have e90 : ac.tmps.getD 90 undef = Value.bool true := h.dep 90 (by kernel_rfl)
                      have e91 : ac.tmps.getD 91 undef = Value.bool false := h.dep 91 (by kernel_rfl)
                      refine ⟨Value.bool true, w, wants_some (d := 90) rfl rfl (by rw [h.size]; show 90 < 102; decide) e90, ?_, gb_refl _ _, rfl⟩
                      clear h
                      simp only [execOp, Act.eval, e91]
                      go_simp
                    refine ⟨Fg.vT rfl (by decide) fun ac w h => ?_, ?_⟩
                    · have e90 : ac.tmps.getD 90 undef = Value.bool true := h.dep 90 (by kernel_rfl)
                      have e92 : ac.tmps.getD 92 undef = Value.bool true := h.dep 92 (by kernel_rfl)
                      exact ⟨_, w, wants_some (d := 90) rfl rfl (by rw [h.size]; show 90 < 102; decide) e90, Fg.run_move rfl e92, gb_refl _ _, rfl⟩
                    refine ⟨Fg.sT rfl (by decide) (fun _ => rfl) fun ac w h => ?_, ?_⟩
                    · have e93 : ac.tmps.getD 93 undef = Value.bool true := h.dep 93 (by kernel_rfl)
                      exact not_wants (d := 93) rfl rfl (by rw [h.size]; show 93 < 102; decide) e93 (by decide)
                    refine ⟨Fg.sT rfl (by decide) (fun _ => rfl) fun ac w h => ?_, ?_⟩
                    · have e93 : ac.tmps.getD 93 undef = Value.bool true := h.dep 93 (by kernel_rfl)
                      exact not_wants (d := 93) rfl rfl (by rw [h.size]; show 93 < 102; decide) e93 (by decide)
                    refine ⟨Fg.sT rfl (by decide) (fun _ => rfl) fun ac w h => ?_, ?_⟩
                    · have e93 : ac.tmps.getD 93 undef = Value.bool true := h.dep 93 (by kernel_rfl)
                      exact not_wants (d := 93) rfl rfl (by rw [h.size]; show 93 < 102; decide) e93 (by decide)
                    refine ⟨Fg.vT rfl (by decide) fun ac w h => ?_, ?_⟩
                    · have e90 : ac.tmps.getD 90 undef = Value.bool true := h.dep 90 (by kernel_rfl)
                      have e93 : ac.tmps.getD 93 undef = Value.bool true := h.dep 93 (by kernel_rfl)
                      refine ⟨Value.bool true, w, wants_some (d := 90) rfl rfl (by rw [h.size]; show 90 < 102; decide) e90, ?_, gb_refl _ _, rfl⟩
                      clear h
                      simp only [execOp, Act.eval, e93]
                      go_simp
                    refine ⟨Fg.vT rfl (by decide) fun ac w h => ?_, ?_⟩
                    · have e90 : ac.tmps.getD 90 undef = Value.bool true := h.dep 90 (by kernel_rfl)
                      have e97 : ac.tmps.getD 97 undef = Value.bool true := h.dep 97 (by kernel_rfl)
                      refine ⟨Value.bool true, w, wants_none rfl, ?_, gb_refl _ _, rfl⟩
                      clear h
                      simp only [execOp, Act.eval, e90, e97]
                      go_simp
                    refine ⟨Fg.vT rfl (by decide) fun ac w h => ?_, ?_⟩
                    · have e98 : ac.tmps.getD 98 undef = Value.bool true := h.dep 98 (by kernel_rfl)
                      exact ⟨_, w, wants_none rfl, Fg.run_move rfl e98, gb_refl _ _, rfl⟩
                    refine ⟨Fg.cT rfl (by decide) fun ac w h => ?_, ?_⟩
                    · have e99 : ac.tmps.getD 99 undef = Value.bool true := h.dep 99 (by kernel_rfl)
                      refine ⟨13, #[], wants_some (d := 99) rfl rfl (by rw [h.size]; show 99 < 102; decide) e99, Fg.run_call rfl rfl (by simp only [List.map_toArray, List.map_nil]) (Fg.run_enter Tryd.func13 (by kernel_rfl) (by kernel_rfl)), ?_⟩
                      exact (awake_any w (HT.out.grown (gb_trans H2.out.1 (gb_trans H15.out.1 h.base)))).mono fun _ _ ⟨he, hg⟩ => ⟨_, he, hg, rfl⟩
                    refine ⟨Fg.vT rfl (by decide) fun ac w h => ?_, ?_⟩
                    · have e99 : ac.tmps.getD 99 undef = Value.bool true := h.dep 99 (by kernel_rfl)
                      have e100 : ac.tmps.getD 100 undef = Value.bool true := h.dep 100 (by kernel_rfl)
                      refine ⟨Value.bool true, w, wants_none rfl, ?_, gb_refl _ _, rfl⟩
                      clear h
                      simp only [execOp, Act.eval, e99, e100]
                      go_simp
                    trivial
                  · intro az wz hB hsz hdf hrest hslots hpt
                    obtain ⟨u80, e80⟩ : ∃ u, az.tmps.getD 80 undef = u := ⟨_, rfl⟩
                    obtain ⟨u81, e81⟩ : ∃ u, az.tmps.getD 81 undef = u := ⟨_, rfl⟩
                    obtain ⟨u82, e82⟩ : ∃ u, az.tmps.getD 82 undef = u := ⟨_, rfl⟩
                    obtain ⟨u83, e83⟩ : ∃ u, az.tmps.getD 83 undef = u := ⟨_, rfl⟩
                    obtain ⟨u84, e84⟩ : ∃ u, az.tmps.getD 84 undef = u := ⟨_, rfl⟩
                    obtain ⟨u85, e85⟩ : ∃ u, az.tmps.getD 85 undef = u := ⟨_, rfl⟩
                    obtain ⟨u86, e86⟩ : ∃ u, az.tmps.getD 86 undef = u := ⟨_, rfl⟩
                    obtain ⟨u87, e87⟩ : ∃ u, az.tmps.getD 87 undef = u := ⟨_, rfl⟩
                    obtain ⟨u88, e88⟩ : ∃ u, az.tmps.getD 88 undef = u := ⟨_, rfl⟩
                    obtain ⟨u89, e89⟩ : ∃ u, az.tmps.getD 89 undef = u := ⟨_, rfl⟩
                    obtain ⟨u90, e90⟩ : ∃ u, az.tmps.getD 90 undef = u := ⟨_, rfl⟩
                    obtain ⟨u91, e91⟩ : ∃ u, az.tmps.getD 91 undef = u := ⟨_, rfl⟩
                    obtain ⟨u92, e92⟩ : ∃ u, az.tmps.getD 92 undef = u := ⟨_, rfl⟩
                    obtain ⟨u93, e93⟩ : ∃ u, az.tmps.getD 93 undef = u := ⟨_, rfl⟩
                    obtain ⟨u94, e94⟩ : ∃ u, az.tmps.getD 94 undef = u := ⟨_, rfl⟩
                    obtain ⟨u95, e95⟩ : ∃ u, az.tmps.getD 95 undef = u := ⟨_, rfl⟩
                    obtain ⟨u96, e96⟩ : ∃ u, az.tmps.getD 96 undef = u := ⟨_, rfl⟩
                    obtain ⟨u97, e97⟩ : ∃ u, az.tmps.getD 97 undef = u := ⟨_, rfl⟩
                    obtain ⟨u98, e98⟩ : ∃ u, az.tmps.getD 98 undef = u := ⟨_, rfl⟩
                    obtain ⟨u99, e99⟩ : ∃ u, az.tmps.getD 99 undef = u := ⟨_, rfl⟩
                    obtain ⟨u100, e100⟩ : ∃ u, az.tmps.getD 100 undef = u := ⟨_, rfl⟩
                    have e101 : az.tmps.getD 101 undef = Value.bool true := hslots 101 (by kernel_rfl)
                    obtain rfl := Fg.frame_is (a := az) (vs := [Value.agg #[Value.int IntKind.u64 a.x0, Value.int IntKind.u64 a.x1, Value.int IntKind.u64 a.x2, Value.int IntKind.u64 a.x3, Value.int IntKind.u64 a.x4], Value.agg #[Value.int IntKind.u64 b.x0, Value.int IntKind.u64 b.x1, Value.int IntKind.u64 b.x2, Value.int IntKind.u64 b.x3, Value.int IntKind.u64 b.x4], Value.pointer (some ⟨w0.heap.size, 0, none⟩), Value.pointer (some ⟨w0.heap.size + 1, 0, none⟩), Value.bool false, Value.pointer (some ⟨N5, 0, none⟩), Value.pointer (some ⟨N6, 0, none⟩), Value.pointer (some ⟨N7, 0, none⟩), Value.bool false, Value.pointer (some ⟨N9, 0, none⟩), Value.bool false, Value.pointer (some ⟨N11, 0, none⟩), Value.agg #[Value.int IntKind.u64 a.x0, Value.int IntKind.u64 a.x1, Value.int IntKind.u64 a.x2, Value.int IntKind.u64 a.x3, Value.int IntKind.u64 a.x4], Value.bool true, Value.bool false, Value.bool false, Value.agg #[Value.int IntKind.u64 b.x0, Value.int IntKind.u64 b.x1, Value.int IntKind.u64 b.x2, Value.int IntKind.u64 b.x3, Value.int IntKind.u64 b.x4], Value.bool true, Value.bool false, Value.bool false, undef, undef, undef, undef, undef, undef, u26, nV (num a.m), u28, nV (num b.m), Value.tuple #[r.v, Value.bool true], a.v, b.v, Value.tuple #[r.v, Value.bool true], r.v, Value.bool true, Value.tuple #[nV s, Value.bool true], nV (num a.m), nV (num b.m), Value.tuple #[nV s, Value.bool true], nV s, Value.bool true, u42, u43, u44, u45, u46, u47, u48, u49, u50, u51, u52, u53, u54, u55, u56, u57, u58, u59, u60, u61, Value.bool false, u63, u64, u65, q.v, Value.tuple #[r2.v, Value.bool false], q.v, b.v, Value.tuple #[r2.v, Value.bool false], r2.v, Value.bool false, u73, u74, u75, u76, u77, nV s2, Value.bool false, u80, u81, u82, u83, u84, u85, u86, u87, u88, u89, u90, u91, u92, u93, u94, u95, u96, u97, u98, u99, u100, Value.bool true]) hsz ⟨hrest 0 (by kernel_rfl), hrest 1 (by kernel_rfl), hrest 2 (by kernel_rfl), hrest 3 (by kernel_rfl), hrest 4 (by kernel_rfl), hrest 5 (by kernel_rfl), hrest 6 (by kernel_rfl), hrest 7 (by kernel_rfl), hrest 8 (by kernel_rfl), hrest 9 (by kernel_rfl), hrest 10 (by kernel_rfl), hrest 11 (by kernel_rfl), hrest 12 (by kernel_rfl), hrest 13 (by kernel_rfl), hrest 14 (by kernel_rfl), hrest 15 (by kernel_rfl), hrest 16 (by kernel_rfl), hrest 17 (by kernel_rfl), hrest 18 (by kernel_rfl), hrest 19 (by kernel_rfl), hrest 20 (by kernel_rfl), hrest 21 (by kernel_rfl), hrest 22 (by kernel_rfl), hrest 23 (by kernel_rfl), hrest 24 (by kernel_rfl), hrest 25 (by kernel_rfl), hrest 26 (by kernel_rfl), hrest 27 (by kernel_rfl), hrest 28 (by kernel_rfl), hrest 29 (by kernel_rfl), hrest 30 (by kernel_rfl), hrest 31 (by kernel_rfl), hrest 32 (by kernel_rfl), hrest 33 (by kernel_rfl), hrest 34 (by kernel_rfl), hrest 35 (by kernel_rfl), hrest 36 (by kernel_rfl), hrest 37 (by kernel_rfl), hrest 38 (by kernel_rfl), hrest 39 (by kernel_rfl), hrest 40 (by kernel_rfl), hrest 41 (by kernel_rfl), hrest 42 (by kernel_rfl), hrest 43 (by kernel_rfl), hrest 44 (by kernel_rfl), hrest 45 (by kernel_rfl), hrest 46 (by kernel_rfl), hrest 47 (by kernel_rfl), hrest 48 (by kernel_rfl), hrest 49 (by kernel_rfl), hrest 50 (by kernel_rfl), hrest 51 (by kernel_rfl), hrest 52 (by kernel_rfl), hrest 53 (by kernel_rfl), hrest 54 (by kernel_rfl), hrest 55 (by kernel_rfl), hrest 56 (by kernel_rfl), hrest 57 (by kernel_rfl), hrest 58 (by kernel_rfl), hrest 59 (by kernel_rfl), hrest 60 (by kernel_rfl), hrest 61 (by kernel_rfl), hrest 62 (by kernel_rfl), hrest 63 (by kernel_rfl), hrest 64 (by kernel_rfl), hrest 65 (by kernel_rfl), hrest 66 (by kernel_rfl), hrest 67 (by kernel_rfl), hrest 68 (by kernel_rfl), hrest 69 (by kernel_rfl), hrest 70 (by kernel_rfl), hrest 71 (by kernel_rfl), hrest 72 (by kernel_rfl), hrest 73 (by kernel_rfl), hrest 74 (by kernel_rfl), hrest 75 (by kernel_rfl), hrest 76 (by kernel_rfl), hrest 77 (by kernel_rfl), hrest 78 (by kernel_rfl), hrest 79 (by kernel_rfl), e80, e81, e82, e83, e84, e85, e86, e87, e88, e89, e90, e91, e92, e93, e94, e95, e96, e97, e98, e99, e100, e101, trivial⟩ hdf
                    clear hsz hdf hrest hslots hpt e80 e81 e82 e83 e84 e85 e86 e87 e88 e89 e90 e91 e92 e93 e94 e95 e96 e97 e98 e99 e100 e101
                    dsimp only
                    refine Fg.wpl_value (v := .bool true) (w' := wz) rfl (Fg.run_assign rfl rfl) ?_
                    simp only [Act.put, List.setIfInBounds_toArray, List.set_cons_succ, List.set_cons_zero]
                    refine wpList_nil ?_
                    have HF := Lib.hid (gb_trans (gb_trans H2.out.1 H15.out.1) hB); clear hB
                    go_wp2
                    go_ret
                    exact ⟨rfl, HF.out⟩
        | false =>
          have hz := HQ.out.no rfl
          refine Fg.region_p [] [.any, .any, .any, .any, .any, .any, .any, .any, .any, .any, .any, .any, .any, .any, .any, .any, .any, .any, .any, .any, .any, .any, .any, .any, .any, .any, .any, .any, .any, .any, .any, .any, .any, .any, .any, .any, .any, .any, .any, .any, .any, .any, .val (Value.bool false), .val (Value.bool false), .val (Value.bool false), .val (Value.bool false), .val (Value.bool false), .val (Value.bool false), .val undef, .val undef, .val undef, .val undef, .val (Value.bool false), .val (Value.bool false), .val (Value.bool false), .val (Value.bool false), .val (Value.bool true), .val (Value.bool true), .val (Fe.zeroF.v), .val (Fe.zeroF.v), .val (Value.bool false), .val (Value.bool false), .val (Value.bool false)] w10 21 (gb_refl _ _) (by kernel_rfl) (by kernel_rfl) (by kernel_rfl) (by kernel_rfl) (by decide) (by kernel_rfl) ?_ ?_
          · refine ⟨Fg.vT rfl (by decide) fun ac w h => ?_, ?_⟩
            · have e8 : ac.tmps.getD 8 undef = Value.bool false := h.rest 8 (by kernel_rfl)
              exact ⟨_, w, wants_none rfl, Fg.run_move rfl e8, gb_refl _ _, rfl⟩
            refine ⟨Fg.vT rfl (by decide) fun ac w h => ?_, ?_⟩
            · have e10 : ac.tmps.getD 10 undef = Value.bool false := h.rest 10 (by kernel_rfl)
              exact ⟨_, w, wants_none rfl, Fg.run_move rfl e10, gb_refl _ _, rfl⟩
            refine ⟨Fg.vT rfl (by decide) fun ac w h => ?_, ?_⟩
            · have e42 : ac.tmps.getD 42 undef = Value.bool false := h.dep 42 (by kernel_rfl)
              have e43 : ac.tmps.getD 43 undef = Value.bool false := h.dep 43 (by kernel_rfl)
              refine ⟨.bool false, w, wants_none rfl, ?_, gb_refl _ _, rfl⟩
              clear h
              simp only [execOp, Act.eval, e42, e43]
              go_simp
            refine ⟨Fg.vT rfl (by decide) fun ac w h => ?_, ?_⟩
            · have e44 : ac.tmps.getD 44 undef = Value.bool false := h.dep 44 (by kernel_rfl)
              exact ⟨_, w, wants_none rfl, Fg.run_move rfl e44, gb_refl _ _, rfl⟩
            refine ⟨Fg.vT rfl (by decide) fun ac w h => ?_, ?_⟩
            · have e45 : ac.tmps.getD 45 undef = Value.bool false := h.dep 45 (by kernel_rfl)
              have e8 : ac.tmps.getD 8 undef = Value.bool false := h.rest 8 (by kernel_rfl)
              exact ⟨_, w, wants_some (d := 45) rfl rfl (by rw [h.size]; show 45 < 102; decide) e45, Fg.run_move rfl e8, gb_refl _ _, rfl⟩
            refine ⟨Fg.vT rfl (by decide) fun ac w h => ?_, ?_⟩
            · have e45 : ac.tmps.getD 45 undef = Value.bool false := h.dep 45 (by kernel_rfl)
              have e46 : ac.tmps.getD 46 undef = Value.bool false := h.dep 46 (by kernel_rfl)
              exact ⟨_, w, wants_some (d := 45) rfl rfl (by rw [h.size]; show 45 < 102; decide) e45, Fg.run_move rfl e46, gb_refl _ _, rfl⟩
            refine ⟨Fg.sT rfl (by decide) (fun _ => rfl) fun ac w h => ?_, ?_⟩
            · have e47 : ac.tmps.getD 47 undef = Value.bool false := h.dep 47 (by kernel_rfl)
              exact not_wants (d := 47) rfl rfl (by rw [h.size]; show 47 < 102; decide) e47 (by decide)
            refine ⟨Fg.sT rfl (by decide) (fun _ => rfl) fun ac w h => ?_, ?_⟩
            · have e47 : ac.tmps.getD 47 undef = Value.bool false := h.dep 47 (by kernel_rfl)
              exact not_wants (d := 47) rfl rfl (by rw [h.size]; show 47 < 102; decide) e47 (by decide)
            refine ⟨Fg.sT rfl (by decide) (fun _ => rfl) fun ac w h => ?_, ?_⟩
            · have e47 : ac.tmps.getD 47 undef = Value.bool false := h.dep 47 (by kernel_rfl)
              exact not_wants (d := 47) rfl rfl (by rw [h.size]; show 47 < 102; decide) e47 (by decide)
            refine ⟨Fg.sT rfl (by decide) (fun _ => rfl) fun ac w h => ?_, ?_⟩
            · have e47 : ac.tmps.getD 47 undef = Value.bool false := h.dep 47 (by kernel_rfl)
              exact not_wants (d := 47) rfl rfl (by rw [h.size]; show 47 < 102; decide) e47 (by decide)
            refine ⟨Fg.vT rfl (by decide) fun ac w h => ?_, ?_⟩
            · have e45 : ac.tmps.getD 45 undef = Value.bool false := h.dep 45 (by kernel_rfl)
              have e47 : ac.tmps.getD 47 undef = Value.bool false := h.dep 47 (by kernel_rfl)
              refine ⟨Value.bool false, w, wants_some (d := 45) rfl rfl (by rw [h.size]; show 45 < 102; decide) e45, ?_, gb_refl _ _, rfl⟩
              clear h
              simp only [execOp, Act.eval, e47]
              go_simp
            refine ⟨Fg.vT rfl (by decide) fun ac w h => ?_, ?_⟩
            · have e45 : ac.tmps.getD 45 undef = Value.bool false := h.dep 45 (by kernel_rfl)
              have e52 : ac.tmps.getD 52 undef = Value.bool false := h.dep 52 (by kernel_rfl)
              refine ⟨Value.bool false, w, wants_none rfl, ?_, gb_refl _ _, rfl⟩
              clear h
              simp only [execOp, Act.eval, e45, e52]
              go_simp
            refine ⟨Fg.vT rfl (by decide) fun ac w h => ?_, ?_⟩
            · have e53 : ac.tmps.getD 53 undef = Value.bool false := h.dep 53 (by kernel_rfl)
              exact ⟨_, w, wants_none rfl, Fg.run_move rfl e53, gb_refl _ _, rfl⟩
            refine ⟨Fg.vT rfl (by decide) fun ac w h => ?_, ?_⟩
            · have e54 : ac.tmps.getD 54 undef = Value.bool false := h.dep 54 (by kernel_rfl)
              have e8 : ac.tmps.getD 8 undef = Value.bool false := h.rest 8 (by kernel_rfl)
              exact ⟨_, w, wants_some (d := 54) rfl rfl (by rw [h.size]; show 54 < 102; decide) e54, Fg.run_move rfl e8, gb_refl _ _, rfl⟩
            refine ⟨Fg.vT rfl (by decide) fun ac w h => ?_, ?_⟩
            · have e54 : ac.tmps.getD 54 undef = Value.bool false := h.dep 54 (by kernel_rfl)
              have e55 : ac.tmps.getD 55 undef = Value.bool false := h.dep 55 (by kernel_rfl)
              refine ⟨Value.bool true, w, wants_some (d := 54) rfl rfl (by rw [h.size]; show 54 < 102; decide) e54, ?_, gb_refl _ _, rfl⟩
              clear h
              simp only [execOp, Act.eval, e55]
              go_simp
            refine ⟨Fg.vT rfl (by decide) fun ac w h => ?_, ?_⟩
            · have e54 : ac.tmps.getD 54 undef = Value.bool false := h.dep 54 (by kernel_rfl)
              have e56 : ac.tmps.getD 56 undef = Value.bool true := h.dep 56 (by kernel_rfl)
              exact ⟨_, w, wants_some (d := 54) rfl rfl (by rw [h.size]; show 54 < 102; decide) e54, Fg.run_move rfl e56, gb_refl _ _, rfl⟩
            refine ⟨Fg.vT rfl (by decide) fun ac w h => ?_, ?_⟩
            · have e57 : ac.tmps.getD 57 undef = Value.bool true := h.dep 57 (by kernel_rfl)
              have e7 : ac.tmps.getD 7 undef = Value.pointer (some ⟨N7, 0, none⟩) := h.rest 7 (by kernel_rfl)
              refine ⟨Fe.zeroF.v, w, wants_some (d := 57) rfl rfl (by rw [h.size]; show 57 < 102; decide) e57, ?_, gb_refl _ _, rfl⟩
              exact ldE rfl e7 ((hz ▸ H10.out.2.2.2.1).grown h.base (by simp))
            refine ⟨Fg.vT rfl (by decide) fun ac w h => ?_, ?_⟩
            · have e57 : ac.tmps.getD 57 undef = Value.bool true := h.dep 57 (by kernel_rfl)
              refine ⟨Fe.zeroF.v, w, wants_some (d := 57) rfl rfl (by rw [h.size]; show 57 < 102; decide) e57, ?_, gb_refl _ _, rfl⟩
              clear h
              simp only [execOp]
              go_simp
              rfl
            refine ⟨Fg.vT rfl (by decide) fun ac w h => ?_, ?_⟩
            · have e57 : ac.tmps.getD 57 undef = Value.bool true := h.dep 57 (by kernel_rfl)
              have e58 : ac.tmps.getD 58 undef = Fe.zeroF.v := h.dep 58 (by kernel_rfl)
              have e59 : ac.tmps.getD 59 undef = Fe.zeroF.v := h.dep 59 (by kernel_rfl)
              refine ⟨.bool false, w, wants_some (d := 57) rfl rfl (by rw [h.size]; show 57 < 102; decide) e57, ?_, gb_refl _ _, rfl⟩
              exact run_neE0 rfl e58 e59
            refine ⟨Fg.vT rfl (by decide) fun ac w h => ?_, ?_⟩
            · have e54 : ac.tmps.getD 54 undef = Value.bool false := h.dep 54 (by kernel_rfl)
              have e57 : ac.tmps.getD 57 undef = Value.bool true := h.dep 57 (by kernel_rfl)
              have e60 : ac.tmps.getD 60 undef = Value.bool false := h.dep 60 (by kernel_rfl)
              refine ⟨Value.bool false, w, wants_some (d := 54) rfl rfl (by rw [h.size]; show 54 < 102; decide) e54, ?_, gb_refl _ _, rfl⟩
              clear h
              simp only [execOp, Act.eval, e57, e60]
              go_simp
            refine ⟨Fg.vT rfl (by decide) fun ac w h => ?_, ?_⟩
            · have e54 : ac.tmps.getD 54 undef = Value.bool false := h.dep 54 (by kernel_rfl)
              have e61 : ac.tmps.getD 61 undef = Value.bool false := h.dep 61 (by kernel_rfl)
              refine ⟨Value.bool false, w, wants_none rfl, ?_, gb_refl _ _, rfl⟩
              clear h
              simp only [execOp, Act.eval, e54, e61]
              go_simp
            trivial
          · intro ap wp hB hsz hdf hrest hslots hpt
            obtain ⟨u42, e42⟩ : ∃ u, ap.tmps.getD 42 undef = u := ⟨_, rfl⟩
            obtain ⟨u43, e43⟩ : ∃ u, ap.tmps.getD 43 undef = u := ⟨_, rfl⟩
            obtain ⟨u44, e44⟩ : ∃ u, ap.tmps.getD 44 undef = u := ⟨_, rfl⟩
            obtain ⟨u45, e45⟩ : ∃ u, ap.tmps.getD 45 undef = u := ⟨_, rfl⟩
            obtain ⟨u46, e46⟩ : ∃ u, ap.tmps.getD 46 undef = u := ⟨_, rfl⟩
            obtain ⟨u47, e47⟩ : ∃ u, ap.tmps.getD 47 undef = u := ⟨_, rfl⟩
            obtain ⟨u48, e48⟩ : ∃ u, ap.tmps.getD 48 undef = u := ⟨_, rfl⟩
            obtain ⟨u49, e49⟩ : ∃ u, ap.tmps.getD 49 undef = u := ⟨_, rfl⟩
            obtain ⟨u50, e50⟩ : ∃ u, ap.tmps.getD 50 undef = u := ⟨_, rfl⟩
            obtain ⟨u51, e51⟩ : ∃ u, ap.tmps.getD 51 undef = u := ⟨_, rfl⟩
            obtain ⟨u52, e52⟩ : ∃ u, ap.tmps.getD 52 undef = u := ⟨_, rfl⟩
            obtain ⟨u53, e53⟩ : ∃ u, ap.tmps.getD 53 undef = u := ⟨_, rfl⟩
            obtain ⟨u54, e54⟩ : ∃ u, ap.tmps.getD 54 undef = u := ⟨_, rfl⟩
            obtain ⟨u55, e55⟩ : ∃ u, ap.tmps.getD 55 undef = u := ⟨_, rfl⟩
            obtain ⟨u56, e56⟩ : ∃ u, ap.tmps.getD 56 undef = u := ⟨_, rfl⟩
            obtain ⟨u57, e57⟩ : ∃ u, ap.tmps.getD 57 undef = u := ⟨_, rfl⟩
            obtain ⟨u58, e58⟩ : ∃ u, ap.tmps.getD 58 undef = u := ⟨_, rfl⟩
            obtain ⟨u59, e59⟩ : ∃ u, ap.tmps.getD 59 undef = u := ⟨_, rfl⟩
            obtain ⟨u60, e60⟩ : ∃ u, ap.tmps.getD 60 undef = u := ⟨_, rfl⟩
            obtain ⟨u61, e61⟩ : ∃ u, ap.tmps.getD 61 undef = u := ⟨_, rfl⟩
            have e62 : ap.tmps.getD 62 undef = Value.bool false := hslots 62 (by kernel_rfl)
            obtain rfl := Fg.frame_is (a := ap) (vs := [Value.agg #[Value.int IntKind.u64 a.x0, Value.int IntKind.u64 a.x1, Value.int IntKind.u64 a.x2, Value.int IntKind.u64 a.x3, Value.int IntKind.u64 a.x4], Value.agg #[Value.int IntKind.u64 b.x0, Value.int IntKind.u64 b.x1, Value.int IntKind.u64 b.x2, Value.int IntKind.u64 b.x3, Value.int IntKind.u64 b.x4], Value.pointer (some ⟨w0.heap.size, 0, none⟩), Value.pointer (some ⟨w0.heap.size + 1, 0, none⟩), Value.bool false, Value.pointer (some ⟨N5, 0, none⟩), Value.pointer (some ⟨N6, 0, none⟩), Value.pointer (some ⟨N7, 0, none⟩), Value.bool false, Value.pointer (some ⟨N9, 0, none⟩), Value.bool false, undef, Value.agg #[Value.int IntKind.u64 a.x0, Value.int IntKind.u64 a.x1, Value.int IntKind.u64 a.x2, Value.int IntKind.u64 a.x3, Value.int IntKind.u64 a.x4], Value.bool true, Value.bool false, Value.bool false, Value.agg #[Value.int IntKind.u64 b.x0, Value.int IntKind.u64 b.x1, Value.int IntKind.u64 b.x2, Value.int IntKind.u64 b.x3, Value.int IntKind.u64 b.x4], Value.bool true, Value.bool false, Value.bool false, undef, undef, undef, undef, undef, undef, u26, nV (num a.m), u28, nV (num b.m), Value.tuple #[r.v, Value.bool false], a.v, b.v, Value.tuple #[r.v, Value.bool false], r.v, Value.bool false, Value.tuple #[nV s, Value.bool false], nV (num a.m), nV (num b.m), Value.tuple #[nV s, Value.bool false], nV s, Value.bool false, u42, u43, u44, u45, u46, u47, u48, u49, u50, u51, u52, u53, u54, u55, u56, u57, u58, u59, u60, u61, Value.bool false, undef, undef, undef, undef, undef, undef, undef, undef, undef, undef, undef, undef, undef, undef, undef, undef, undef, undef, undef, undef, undef, undef, undef, undef, undef, undef, undef, undef, undef, undef, undef, undef, undef, undef, undef, undef, undef, undef, undef]) hsz ⟨hrest 0 (by kernel_rfl), hrest 1 (by kernel_rfl), hrest 2 (by kernel_rfl), hrest 3 (by kernel_rfl), hrest 4 (by kernel_rfl), hrest 5 (by kernel_rfl), hrest 6 (by kernel_rfl), hrest 7 (by kernel_rfl), hrest 8 (by kernel_rfl), hrest 9 (by kernel_rfl), hrest 10 (by kernel_rfl), hrest 11 (by kernel_rfl), hrest 12 (by kernel_rfl), hrest 13 (by kernel_rfl), hrest 14 (by kernel_rfl), hrest 15 (by kernel_rfl), hrest 16 (by kernel_rfl), hrest 17 (by kernel_rfl), hrest 18 (by kernel_rfl), hrest 19 (by kernel_rfl), hrest 20 (by kernel_rfl), hrest 21 (by kernel_rfl), hrest 22 (by kernel_rfl), hrest 23 (by kernel_rfl), hrest 24 (by kernel_rfl), hrest 25 (by kernel_rfl), hrest 26 (by kernel_rfl), hrest 27 (by kernel_rfl), hrest 28 (by kernel_rfl), hrest 29 (by kernel_rfl), hrest 30 (by kernel_rfl), hrest 31 (by kernel_rfl), hrest 32 (by kernel_rfl), hrest 33 (by kernel_rfl), hrest 34 (by kernel_rfl), hrest 35 (by kernel_rfl), hrest 36 (by kernel_rfl), hrest 37 (by kernel_rfl), hrest 38 (by kernel_rfl), hrest 39 (by kernel_rfl), hrest 40 (by kernel_rfl), hrest 41 (by kernel_rfl), e42, e43, e44, e45, e46, e47, e48, e49, e50, e51, e52, e53, e54, e55, e56, e57, e58, e59, e60, e61, e62, hrest 63 (by kernel_rfl), hrest 64 (by kernel_rfl), hrest 65 (by kernel_rfl), hrest 66 (by kernel_rfl), hrest 67 (by kernel_rfl), hrest 68 (by kernel_rfl), hrest 69 (by kernel_rfl), hrest 70 (by kernel_rfl), hrest 71 (by kernel_rfl), hrest 72 (by kernel_rfl), hrest 73 (by kernel_rfl), hrest 74 (by kernel_rfl), hrest 75 (by kernel_rfl), hrest 76 (by kernel_rfl), hrest 77 (by kernel_rfl), hrest 78 (by kernel_rfl), hrest 79 (by kernel_rfl), hrest 80 (by kernel_rfl), hrest 81 (by kernel_rfl), hrest 82 (by kernel_rfl), hrest 83 (by kernel_rfl), hrest 84 (by kernel_rfl), hrest 85 (by kernel_rfl), hrest 86 (by kernel_rfl), hrest 87 (by kernel_rfl), hrest 88 (by kernel_rfl), hrest 89 (by kernel_rfl), hrest 90 (by kernel_rfl), hrest 91 (by kernel_rfl), hrest 92 (by kernel_rfl), hrest 93 (by kernel_rfl), hrest 94 (by kernel_rfl), hrest 95 (by kernel_rfl), hrest 96 (by kernel_rfl), hrest 97 (by kernel_rfl), hrest 98 (by kernel_rfl), hrest 99 (by kernel_rfl), hrest 100 (by kernel_rfl), hrest 101 (by kernel_rfl), trivial⟩ hdf
            clear hsz hdf hrest hslots hpt e42 e43 e44 e45 e46 e47 e48 e49 e50 e51 e52 e53 e54 e55 e56 e57 e58 e59 e60 e61 e62
            dsimp only
            refine wpList_nil ?_
            have H11 := Lib.hid (And.intro (gb_trans H10.out.1 hB) (And.intro (H10.out.2.1.grown hB (by simp)) (And.intro (H10.out.2.2.1.grown hB (by simp)) (And.intro (H10.out.2.2.2.1.grown hB (by simp)) (H10.out.2.2.2.2.grown hB (by simp)))))); clear hB
            have x5 := H11.out.2.1.lt
            have x6 := H11.out.2.2.1.lt
            have x7 := H11.out.2.2.2.1.lt
            have x9 := H11.out.2.2.2.2.lt
            have x2 := H11.out.1.size
            go_upto_region 10 with (fail)
            refine Fg.region_t [11] [.any, .any, .any, .any, .any, .any, .any, .any, .any, .any, .any, .fresh 24 (feL Fe.zeroF) wp.heap.size, .any, .any, .any, .any, .any, .any, .any, .any, .any, .any, .any, .any, .any, .any, .any, .any, .any, .any, .any, .any, .any, .any, .any, .any, .any, .any, .any, .any, .any, .any, .any, .any, .any, .any, .any, .any, .any, .any, .any, .any, .any, .any, .any, .any, .any, .any, .any, .any, .any, .any, .any, .val (a.v), .val ((Fe.sqF a).v), .val (b.v), .val (q.v)] wp 5 (gb_refl _ _) (by kernel_rfl) (by kernel_rfl) (by kernel_rfl) (by kernel_rfl) (by decide) (by kernel_rfl) ?_ ?_
            · refine ⟨Fg.vT rfl (by decide) fun ac w h => ?_, ?_⟩
              · have e2 : ac.tmps.getD 2 undef = Value.pointer (some ⟨w0.heap.size, 0, none⟩) := h.rest 2 (by kernel_rfl)
                refine ⟨a.v, w, wants_none rfl, ?_, gb_refl _ _, rfl⟩
                exact ldE rfl e2 (HB.out.1 w (gb_trans H11.out.1 h.base))
              refine ⟨Fg.cT rfl (by decide) fun ac w h => ?_, ?_⟩
              · have e63 : ac.tmps.getD 63 undef = a.v := h.dep 63 (by kernel_rfl)
                refine ⟨12, #[a.v], wants_none rfl, Fg.run_call rfl rfl (by simp only [List.map_toArray, List.map_cons, List.map_nil, Act.eval, e63]) (Fg.run_enter Tryd.func12 (by kernel_rfl) (by kernel_rfl)), ?_⟩
                exact (feOut_and (sq_fe a w HO.out.1)).mono fun _ _ ⟨he, hg⟩ => ⟨_, he, hg, rfl⟩
              refine ⟨Fg.vT rfl (by decide) fun ac w h => ?_, ?_⟩
              · have e3 : ac.tmps.getD 3 undef = Value.pointer (some ⟨w0.heap.size + 1, 0, none⟩) := h.rest 3 (by kernel_rfl)
                refine ⟨b.v, w, wants_none rfl, ?_, gb_refl _ _, rfl⟩
                exact ldE rfl e3 (HB.out.2 w (gb_trans H11.out.1 h.base))
              refine ⟨Fg.cT rfl (by decide) fun ac w h => ?_, ?_⟩
              · have e64 : ac.tmps.getD 64 undef = (Fe.sqF a).v := h.dep 64 (by kernel_rfl)
                have e65 : ac.tmps.getD 65 undef = b.v := h.dep 65 (by kernel_rfl)
                refine ⟨7, #[(Fe.sqF a).v, b.v], wants_none rfl, Fg.run_call rfl rfl (by simp only [List.map_toArray, List.map_cons, List.map_nil, Act.eval, e64, e65]) (Fg.run_enter Tryd.func7 (by kernel_rfl) (by kernel_rfl)), ?_⟩
                exact (HM.out w).mono fun _ _ ⟨he, hg⟩ => ⟨_, he, hg, rfl⟩
              refine ⟨Fg.aT 24 (feL Fe.zeroF) rfl (by show 11 < 102; decide) rfl fun ac w h => ?_, ?_⟩
              · refine ⟨wants_none rfl, ?_⟩
                clear h
                go_simp
                rfl
              trivial
            · intro ax wx hB hsz hdf hrest hslots hpt
              obtain ⟨N11, e11, n11, b11⟩ : ∃ N, ax.tmps.getD 11 undef = .pointer (some ⟨N, 0, none⟩) ∧ wp.heap.size ≤ N ∧ Blk wx N 24 (feL Fe.zeroF) := hslots 11 (by kernel_rfl)
              obtain ⟨u63, e63⟩ : ∃ u, ax.tmps.getD 63 undef = u := ⟨_, rfl⟩
              obtain ⟨u64, e64⟩ : ∃ u, ax.tmps.getD 64 undef = u := ⟨_, rfl⟩
              obtain ⟨u65, e65⟩ : ∃ u, ax.tmps.getD 65 undef = u := ⟨_, rfl⟩
              have e66 : ax.tmps.getD 66 undef = q.v := hslots 66 (by kernel_rfl)
              obtain rfl := Fg.frame_is (a := ax) (vs := [Value.agg #[Value.int IntKind.u64 a.x0, Value.int IntKind.u64 a.x1, Value.int IntKind.u64 a.x2, Value.int IntKind.u64 a.x3, Value.int IntKind.u64 a.x4], Value.agg #[Value.int IntKind.u64 b.x0, Value.int IntKind.u64 b.x1, Value.int IntKind.u64 b.x2, Value.int IntKind.u64 b.x3, Value.int IntKind.u64 b.x4], Value.pointer (some ⟨w0.heap.size, 0, none⟩), Value.pointer (some ⟨w0.heap.size + 1, 0, none⟩), Value.bool false, Value.pointer (some ⟨N5, 0, none⟩), Value.pointer (some ⟨N6, 0, none⟩), Value.pointer (some ⟨N7, 0, none⟩), Value.bool false, Value.pointer (some ⟨N9, 0, none⟩), Value.bool false, Value.pointer (some ⟨N11, 0, none⟩), Value.agg #[Value.int IntKind.u64 a.x0, Value.int IntKind.u64 a.x1, Value.int IntKind.u64 a.x2, Value.int IntKind.u64 a.x3, Value.int IntKind.u64 a.x4], Value.bool true, Value.bool false, Value.bool false, Value.agg #[Value.int IntKind.u64 b.x0, Value.int IntKind.u64 b.x1, Value.int IntKind.u64 b.x2, Value.int IntKind.u64 b.x3, Value.int IntKind.u64 b.x4], Value.bool true, Value.bool false, Value.bool false, undef, undef, undef, undef, undef, undef, u26, nV (num a.m), u28, nV (num b.m), Value.tuple #[r.v, Value.bool false], a.v, b.v, Value.tuple #[r.v, Value.bool false], r.v, Value.bool false, Value.tuple #[nV s, Value.bool false], nV (num a.m), nV (num b.m), Value.tuple #[nV s, Value.bool false], nV s, Value.bool false, u42, u43, u44, u45, u46, u47, u48, u49, u50, u51, u52, u53, u54, u55, u56, u57, u58, u59, u60, u61, Value.bool false, u63, u64, u65, q.v, undef, undef, undef, undef, undef, undef, undef, undef, undef, undef, undef, undef, undef, undef, undef, undef, undef, undef, undef, undef, undef, undef, undef, undef, undef, undef, undef, undef, undef, undef, undef, undef, undef, undef, undef]) hsz ⟨hrest 0 (by kernel_rfl), hrest 1 (by kernel_rfl), hrest 2 (by kernel_rfl), hrest 3 (by kernel_rfl), hrest 4 (by kernel_rfl), hrest 5 (by kernel_rfl), hrest 6 (by kernel_rfl), hrest 7 (by kernel_rfl), hrest 8 (by kernel_rfl), hrest 9 (by kernel_rfl), hrest 10 (by kernel_rfl), e11, hrest 12 (by kernel_rfl), hrest 13 (by kernel_rfl), hrest 14 (by kernel_rfl), hrest 15 (by kernel_rfl), hrest 16 (by kernel_rfl), hrest 17 (by kernel_rfl), hrest 18 (by kernel_rfl), hrest 19 (by kernel_rfl), hrest 20 (by kernel_rfl), hrest 21 (by kernel_rfl), hrest 22 (by kernel_rfl), hrest 23 (by kernel_rfl), hrest 24 (by kernel_rfl), hrest 25 (by kernel_rfl), hrest 26 (by kernel_rfl), hrest 27 (by kernel_rfl), hrest 28 (by kernel_rfl), hrest 29 (by kernel_rfl), hrest 30 (by kernel_rfl), hrest 31 (by kernel_rfl), hrest 32 (by kernel_rfl), hrest 33 (by kernel_rfl), hrest 34 (by kernel_rfl), hrest 35 (by kernel_rfl), hrest 36 (by kernel_rfl), hrest 37 (by kernel_rfl), hrest 38 (by kernel_rfl), hrest 39 (by kernel_rfl), hrest 40 (by kernel_rfl), hrest 41 (by kernel_rfl), hrest 42 (by kernel_rfl), hrest 43 (by kernel_rfl), hrest 44 (by kernel_rfl), hrest 45 (by kernel_rfl), hrest 46 (by kernel_rfl), hrest 47 (by kernel_rfl), hrest 48 (by kernel_rfl), hrest 49 (by kernel_rfl), hrest 50 (by kernel_rfl), hrest 51 (by kernel_rfl), hrest 52 (by kernel_rfl), hrest 53 (by kernel_rfl), hrest 54 (by kernel_rfl), hrest 55 (by kernel_rfl), hrest 56 (by kernel_rfl), hrest 57 (by kernel_rfl), hrest 58 (by kernel_rfl), hrest 59 (by kernel_rfl), hrest 60 (by kernel_rfl), hrest 61 (by kernel_rfl), hrest 62 (by kernel_rfl), e63, e64, e65, e66, hrest 67 (by kernel_rfl), hrest 68 (by kernel_rfl), hrest 69 (by kernel_rfl), hrest 70 (by kernel_rfl), hrest 71 (by kernel_rfl), hrest 72 (by kernel_rfl), hrest 73 (by kernel_rfl), hrest 74 (by kernel_rfl), hrest 75 (by kernel_rfl), hrest 76 (by kernel_rfl), hrest 77 (by kernel_rfl), hrest 78 (by kernel_rfl), hrest 79 (by kernel_rfl), hrest 80 (by kernel_rfl), hrest 81 (by kernel_rfl), hrest 82 (by kernel_rfl), hrest 83 (by kernel_rfl), hrest 84 (by kernel_rfl), hrest 85 (by kernel_rfl), hrest 86 (by kernel_rfl), hrest 87 (by kernel_rfl), hrest 88 (by kernel_rfl), hrest 89 (by kernel_rfl), hrest 90 (by kernel_rfl), hrest 91 (by kernel_rfl), hrest 92 (by kernel_rfl), hrest 93 (by kernel_rfl), hrest 94 (by kernel_rfl), hrest 95 (by kernel_rfl), hrest 96 (by kernel_rfl), hrest 97 (by kernel_rfl), hrest 98 (by kernel_rfl), hrest 99 (by kernel_rfl), hrest 100 (by kernel_rfl), hrest 101 (by kernel_rfl), trivial⟩ hdf
              clear hsz hdf hrest hslots hpt e11 e63 e64 e65 e66
              dsimp only
              refine Fg.wpl_skip rfl rfl (stE (a := q) rfl rfl rfl b11 rfl) ?_
              refine wpList_nil ?_
              have k11 := storedE (a := q) b11 rfl
              have k5 := (H11.out.2.1.grown hB (by simp)).setCells_other (cs := feL q) (C := N11) 0 (by omega)
              have k6 := (H11.out.2.2.1.grown hB (by simp)).setCells_other (cs := feL q) (C := N11) 0 (by omega)
              have k7 := (H11.out.2.2.2.1.grown hB (by simp)).setCells_other (cs := feL q) (C := N11) 0 (by omega)
              have k9 := (H11.out.2.2.2.2.grown hB (by simp)).setCells_other (cs := feL q) (C := N11) 0 (by omega)
              have kg := gb_setCells_new (cs := feL q) (gb_trans H11.out.1 hB) (B := N11) (by omega) 0
              have y11 : N7 < N11 ∧ N9 < N11 := ⟨by omega, by omega⟩
              clear b11 hB n11 x5 x6 x7 x9 x2
              revert kg; revert k9; revert k7; revert k6; revert k5; revert k11
              generalize World.setCells _ _ _ _ = w12
              intro k11 k5 k6 k7 k9 kg
              have H12 := Lib.hid (And.intro kg (And.intro k5 (And.intro k6 (And.intro k7 (And.intro k9 k11))))); clear k11 k5 k6 k7 k9 kg H11 H10
              go_upto_region 11 with (fail)
              refine wp_region_lit ?_
              refine Fg.wpl_value (v := q.v) (w' := w12) rfl (ldE rfl rfl (H12.out.2.2.2.2.2)) ?_
              simp only [Act.put, List.setIfInBounds_toArray, List.set_cons_succ, List.set_cons_zero]
              refine Fg.wpl_value (v := b.v) (w' := w12) rfl (ldE rfl rfl (HB.out.2 _ H12.out.1)) ?_
              simp only [Act.put, List.setIfInBounds_toArray, List.set_cons_succ, List.set_cons_zero]
              refine Fg.wpl_call rfl (Fg.run_call (vs := #[q.v, b.v]) rfl rfl (by simp only [List.map_toArray, List.map_cons, List.map_nil, Act.eval] <;> rfl) (Fg.run_enter Tryd.func25 (by kernel_rfl) (by kernel_rfl))) ?_
              refine (H2q.out.fr w12 (HT.out.grown (gb_trans H2.out.1 H12.out.1))).mono ?_
              rintro e w13 ⟨rfl, gw13⟩
              refine ⟨_, rfl, ?_⟩
              simp only [Act.put, List.setIfInBounds_toArray, List.set_cons_succ, List.set_cons_zero]
              refine Fg.wpl_value (v := .tuple #[r2.v, .bool ok2]) (w' := w13) rfl (Fg.run_move rfl rfl) ?_
              simp only [Act.put, List.setIfInBounds_toArray, List.set_cons_succ, List.set_cons_zero]
              refine Fg.wpl_value (v := r2.v) (w' := w13) rfl (by go_simp <;> rfl) ?_
              simp only [Act.put, List.setIfInBounds_toArray, List.set_cons_succ, List.set_cons_zero]
              refine Fg.wpl_value (v := .bool ok2) (w' := w13) rfl (by go_simp <;> rfl) ?_
              simp only [Act.put, List.setIfInBounds_toArray, List.set_cons_succ, List.set_cons_zero]
              have k7 := H12.out.2.2.2.1.grown gw13 (by simp)
              refine Fg.wpl_skip rfl rfl (stE (a := r2) rfl rfl rfl k7 rfl) ?_
              refine Fg.wpl_value (v := .bool ok2) (w' := _) rfl (Fg.run_assign rfl rfl) ?_
              simp only [Act.put, List.setIfInBounds_toArray, List.set_cons_succ, List.set_cons_zero]
              refine wpList_nil ?_
              have m7 := storedE (a := r2) k7 rfl
              have m5 := (H12.out.2.1.grown gw13 (by simp)).setCells_other (cs := feL r2) (C := N7) 0 (by omega)
              have m6 := (H12.out.2.2.1.grown gw13 (by simp)).setCells_other (cs := feL r2) (C := N7) 0 (by omega)
              have m9 := (H12.out.2.2.2.2.1.grown gw13 (by simp)).setCells_other (cs := feL r2) (C := N7) 0 (by omega)
              have m11 := (H12.out.2.2.2.2.2.grown gw13 (by simp)).setCells_other (cs := feL r2) (C := N7) 0 (by omega)
              have mg := gb_setCells_new (cs := feL r2) (gb_trans H12.out.1 gw13) (B := N7) (by omega) 0
              clear k7 gw13
              revert mg; revert m11; revert m9; revert m7; revert m6; revert m5
              generalize World.setCells _ _ _ _ = w14
              intro m5 m6 m7 m9 m11 mg
              have H14 := Lib.hid (And.intro mg (And.intro m5 (And.intro m6 (And.intro m7 (And.intro m9 m11))))); clear m5 m6 m7 m9 m11 mg H12
              go_upto_region 12 with (fail)
              refine wp_region_flowP (fun d u _ => u = gv q b s2 ok2 d) (fun _ => 0) (fun _ _ _ => True) (B12 w2 N5 N6 N7 N9 N11 (num a.m) (num b.m) s s2 r2 q) [] (by kernel_rfl) (by kernel_rfl) (by kernel_rfl) ?_ ?_ (by kernel_rfl) ?_ ?_
              · intro ls hls h0
                have gd : w14.grownBy w14.drew none := gb_drew (gb_refl _ _)
                refine ⟨gb_trans H14.out.1 gd, H14.out.2.1.grown gd (by simp), H14.out.2.2.1.grown gd (by simp), H14.out.2.2.2.1.grown gd (by simp), H14.out.2.2.2.2.2.grown gd (by simp), ?_⟩
                rw [if_neg (by rw [h0]; decide)]
                exact H14.out.2.2.2.2.1.grown gd (by simp)
              · exact Fg.ptrs_undef rfl
              · refine ⟨v12 rfl (by decide) rfl fun ls ac w h => ?_, ?_⟩
                · have e11 : ac.tmps.getD 11 undef = .pointer (some ⟨N11, 0, none⟩) := h.rest 11 (by kernel_rfl)
                  exact ldE rfl e11 h.base.2.2.2.2.1
                refine ⟨c12 rfl (by decide) rfl 14 #[q.v] fun ls ac w h => ?_, ?_⟩
                · have e74 : ac.tmps.getD 74 undef = q.v := h.dep 74 (by kernel_rfl)
                  exact ⟨Fg.run_call rfl rfl (by simp only [List.map_toArray, List.map_cons, List.map_nil, Act.eval, e74]) (Fg.run_enter Tryd.func14 (by kernel_rfl) (by kernel_rfl)), c_from q w hqr⟩
                refine ⟨v12 rfl (by decide) rfl fun ls ac w h => ?_, ?_⟩
                · have e6 : ac.tmps.getD 6 undef = .pointer (some ⟨N6, 0, none⟩) := h.rest 6 (by kernel_rfl)
                  exact ld rfl e6 h.base.2.2.1 (num_len _) rfl rfl
                refine ⟨c12 rfl (by decide) rfl 26 #[nV (num q.m), nV (num b.m)] fun ls ac w h => ?_, ?_⟩
                · have e75 : ac.tmps.getD 75 undef = nV (num q.m) := h.dep 75 (by kernel_rfl)
                  have e76 : ac.tmps.getD 76 undef = nV (num b.m) := h.dep 76 (by kernel_rfl)
                  exact ⟨Fg.run_call rfl rfl (by simp only [List.map_toArray, List.map_cons, List.map_nil, Act.eval, e75, e76]) (Fg.run_enter Tryd.func26 (by kernel_rfl) (by kernel_rfl)), H2q.out.rr w⟩
                refine ⟨v12 rfl (by decide) rfl fun ls ac w h => ?_, ?_⟩
                · have e77 : ac.tmps.getD 77 undef = .tuple #[nV s2, .bool ok2] := h.dep 77 (by kernel_rfl)
                  exact Fg.run_move rfl e77
                refine ⟨v12 rfl (by decide) rfl fun ls ac w h => ?_, ?_⟩
                · have e73 : ac.tmps.getD 73 undef = .tuple #[nV s2, .bool ok2] := h.dep 73 (by kernel_rfl)
                  show _ = Result.ok (Next.value (nV s2)) w
                  clear h
                  simp only [execOp, Act.eval, e73]
                  go_simp
                refine ⟨v12 rfl (by decide) rfl fun ls ac w h => ?_, ?_⟩
                · have e73 : ac.tmps.getD 73 undef = .tuple #[nV s2, .bool ok2] := h.dep 73 (by kernel_rfl)
                  show _ = Result.ok (Next.value (.bool ok2)) w
                  clear h
                  simp only [execOp, Act.eval, e73]
                  go_simp
                refine ⟨flowP_store rfl fun ls ac w h => ?_, ?_⟩
                · have e9 : ac.tmps.getD 9 undef = .pointer (some ⟨N9, 0, none⟩) := h.rest 9 (by kernel_rfl)
                  have e78 : ac.tmps.getD 78 undef = nV s2 := h.dep 78 (by kernel_rfl)
                  have hb := h.base
                  have hl : (pL (if ls.getD 7 false = true then s2 else s)).length = 16 := by
                    rw [pL_len]
                    split
                    · exact H2q.out.len
                    · exact HQ.out.len
                  refine ⟨wants_none rfl, w.setCells N9 0 (pL s2), st rfl e9 e78 hb.2.2.2.2.2 hl H2q.out.len rfl, ⟨gb_setCells_new hb.1 (by omega) 0, hb.2.1.setCells_other 0 (by omega), hb.2.2.1.setCells_other 0 (by omega), hb.2.2.2.1.setCells_other 0 (by omega), hb.2.2.2.2.1.setCells_other 0 (by omega), ?_⟩, fun _ _ h => h, fun _ _ _ _ _ h => h, (gb_setCells (cs := pL s2) (gb_refl w (some N9)) 0).size, trivial⟩
                  rw [if_pos (ls_this (by rw [h.rows]; decide))]
                  exact stored hb.2.2.2.2.2 hl H2q.out.len
                refine ⟨v12 rfl (by decide) rfl fun ls ac w h => ?_, trivial⟩
                · have e79 : ac.tmps.getD 79 undef = .bool ok2 := h.dep 79 (by kernel_rfl)
                  exact Fg.run_assign rfl e79
              · intro ls ay w15 hall hB hsz hdf hrest hslots hmems hpt
                have h7 := hall 7 (by decide)
                have hb9 := hB.2.2.2.2.2
                rw [if_pos h7] at hb9
                have H15 := Lib.hid (And.intro hB.1 (And.intro hB.2.1 (And.intro hB.2.2.2.1 hb9))); clear hB hb9 h7 hall hmems
                have e10 : ay.tmps.getD 10 undef = Value.bool ok2 := hslots 10 (by kernel_rfl)
                obtain ⟨u73, e73⟩ : ∃ u, ay.tmps.getD 73 undef = u := ⟨_, rfl⟩
                obtain ⟨u74, e74⟩ : ∃ u, ay.tmps.getD 74 undef = u := ⟨_, rfl⟩
                obtain ⟨u75, e75⟩ : ∃ u, ay.tmps.getD 75 undef = u := ⟨_, rfl⟩
                obtain ⟨u76, e76⟩ : ∃ u, ay.tmps.getD 76 undef = u := ⟨_, rfl⟩
                obtain ⟨u77, e77⟩ : ∃ u, ay.tmps.getD 77 undef = u := ⟨_, rfl⟩
                have e78 : ay.tmps.getD 78 undef = nV s2 := hslots 78 (by kernel_rfl)
                have e79 : ay.tmps.getD 79 undef = Value.bool ok2 := hslots 79 (by kernel_rfl)
                obtain rfl := Fg.frame_is (a := ay) (vs := [Value.agg #[Value.int IntKind.u64 a.x0, Value.int IntKind.u64 a.x1, Value.int IntKind.u64 a.x2, Value.int IntKind.u64 a.x3, Value.int IntKind.u64 a.x4], Value.agg #[Value.int IntKind.u64 b.x0, Value.int IntKind.u64 b.x1, Value.int IntKind.u64 b.x2, Value.int IntKind.u64 b.x3, Value.int IntKind.u64 b.x4], Value.pointer (some ⟨w0.heap.size, 0, none⟩), Value.pointer (some ⟨w0.heap.size + 1, 0, none⟩), Value.bool false, Value.pointer (some ⟨N5, 0, none⟩), Value.pointer (some ⟨N6, 0, none⟩), Value.pointer (some ⟨N7, 0, none⟩), Value.bool ok2, Value.pointer (some ⟨N9, 0, none⟩), Value.bool ok2, Value.pointer (some ⟨N11, 0, none⟩), Value.agg #[Value.int IntKind.u64 a.x0, Value.int IntKind.u64 a.x1, Value.int IntKind.u64 a.x2, Value.int IntKind.u64 a.x3, Value.int IntKind.u64 a.x4], Value.bool true, Value.bool false, Value.bool false, Value.agg #[Value.int IntKind.u64 b.x0, Value.int IntKind.u64 b.x1, Value.int IntKind.u64 b.x2, Value.int IntKind.u64 b.x3, Value.int IntKind.u64 b.x4], Value.bool true, Value.bool false, Value.bool false, undef, undef, undef, undef, undef, undef, u26, nV (num a.m), u28, nV (num b.m), Value.tuple #[r.v, Value.bool false], a.v, b.v, Value.tuple #[r.v, Value.bool false], r.v, Value.bool false, Value.tuple #[nV s, Value.bool false], nV (num a.m), nV (num b.m), Value.tuple #[nV s, Value.bool false], nV s, Value.bool false, u42, u43, u44, u45, u46, u47, u48, u49, u50, u51, u52, u53, u54, u55, u56, u57, u58, u59, u60, u61, Value.bool false, u63, u64, u65, q.v, Value.tuple #[r2.v, Value.bool ok2], q.v, b.v, Value.tuple #[r2.v, Value.bool ok2], r2.v, Value.bool ok2, u73, u74, u75, u76, u77, nV s2, Value.bool ok2, undef, undef, undef, undef, undef, undef, undef, undef, undef, undef, undef, undef, undef, undef, undef, undef, undef, undef, undef, undef, undef, undef]) hsz ⟨hrest 0 (by kernel_rfl), hrest 1 (by kernel_rfl), hrest 2 (by kernel_rfl), hrest 3 (by kernel_rfl), hrest 4 (by kernel_rfl), hrest 5 (by kernel_rfl), hrest 6 (by kernel_rfl), hrest 7 (by kernel_rfl), hrest 8 (by kernel_rfl), hrest 9 (by kernel_rfl), e10, hrest 11 (by kernel_rfl), hrest 12 (by kernel_rfl), hrest 13 (by kernel_rfl), hrest 14 (by kernel_rfl), hrest 15 (by kernel_rfl), hrest 16 (by kernel_rfl), hrest 17 (by kernel_rfl), hrest 18 (by kernel_rfl), hrest 19 (by kernel_rfl), hrest 20 (by kernel_rfl), hrest 21 (by kernel_rfl), hrest 22 (by kernel_rfl), hrest 23 (by kernel_rfl), hrest 24 (by kernel_rfl), hrest 25 (by kernel_rfl), hrest 26 (by kernel_rfl), hrest 27 (by kernel_rfl), hrest 28 (by kernel_rfl), hrest 29 (by kernel_rfl), hrest 30 (by kernel_rfl), hrest 31 (by kernel_rfl), hrest 32 (by kernel_rfl), hrest 33 (by kernel_rfl), hrest 34 (by kernel_rfl), hrest 35 (by kernel_rfl), hrest 36 (by kernel_rfl), hrest 37 (by kernel_rfl), hrest 38 (by kernel_rfl), hrest 39 (by kernel_rfl), hrest 40 (by kernel_rfl), hrest 41 (by kernel_rfl), hrest 42 (by kernel_rfl), hrest 43 (by kernel_rfl), hrest 44 (by kernel_rfl), hrest 45 (by kernel_rfl), hrest 46 (by kernel_rfl), hrest 47 (by kernel_rfl), hrest 48 (by kernel_rfl), hrest 49 (by kernel_rfl), hrest 50 (by kernel_rfl), hrest 51 (by kernel_rfl), hrest 52 (by kernel_rfl), hrest 53 (by kernel_rfl), hrest 54 (by kernel_rfl), hrest 55 (by kernel_rfl), hrest 56 (by kernel_rfl), hrest 57 (by kernel_rfl), hrest 58 (by kernel_rfl), hrest 59 (by kernel_rfl), hrest 60 (by kernel_rfl), hrest 61 (by kernel_rfl), hrest 62 (by kernel_rfl), hrest 63 (by kernel_rfl), hrest 64 (by kernel_rfl), hrest 65 (by kernel_rfl), hrest 66 (by kernel_rfl), hrest 67 (by kernel_rfl), hrest 68 (by kernel_rfl), hrest 69 (by kernel_rfl), hrest 70 (by kernel_rfl), hrest 71 (by kernel_rfl), hrest 72 (by kernel_rfl), e73, e74, e75, e76, e77, e78, e79, hrest 80 (by kernel_rfl), hrest 81 (by kernel_rfl), hrest 82 (by kernel_rfl), hrest 83 (by kernel_rfl), hrest 84 (by kernel_rfl), hrest 85 (by kernel_rfl), hrest 86 (by kernel_rfl), hrest 87 (by kernel_rfl), hrest 88 (by kernel_rfl), hrest 89 (by kernel_rfl), hrest 90 (by kernel_rfl), hrest 91 (by kernel_rfl), hrest 92 (by kernel_rfl), hrest 93 (by kernel_rfl), hrest 94 (by kernel_rfl), hrest 95 (by kernel_rfl), hrest 96 (by kernel_rfl), hrest 97 (by kernel_rfl), hrest 98 (by kernel_rfl), hrest 99 (by kernel_rfl), hrest 100 (by kernel_rfl), hrest 101 (by kernel_rfl), trivial⟩ hdf
                clear hsz hdf hrest hslots hpt e10 e73 e74 e75 e76 e77 e78 e79
                dsimp only
                clear H14
                cases ok2 with
                | true =>
                  go_upto_region 13 with (fail)
                  refine Fg.region_t [] [.any, .any, .any, .any, .any, .any, .any, .any, .any, .any, .any, .any, .any, .any, .any, .any, .any, .any, .any, .any, .any, .any, .any, .any, .any, .any, .any, .any, .any, .any, .any, .any, .any, .any, .any, .any, .any, .any, .any, .any, .any, .any, .any, .any, .any, .any, .any, .any, .any, .any, .any, .any, .any, .any, .any, .any, .any, .any, .any, .any, .any, .any, .any, .any, .any, .any, .any, .any, .any, .any, .any, .any, .any, .any, .any, .any, .any, .any, .any, .any, .val (Value.bool true), .val (Value.bool true), .val (Value.bool true), .val (Value.bool true), .val (a.v), .val ((invF a).v), .val (nV (num a.m)), .val (nV (rU (num a.m))), .val (Value.bool true), .val (Value.bool true), .val (Value.bool true), .val (Value.bool true), .val (Value.bool false), .val (Value.bool false), .val (r2.v), .val (nV s2), .val (Value.bool true), .val (Value.bool true), .val (Value.bool true), .val (Value.bool true), .val (Value.bool true), .val (Value.bool true)] w15 22 (gb_refl _ _) (by kernel_rfl) (by kernel_rfl) (by kernel_rfl) (by kernel_rfl) (by decide) (by kernel_rfl) ?_ ?_
                  · refine ⟨Fg.vT rfl (by decide) fun ac w h => ?_, ?_⟩
                    · have e8 : ac.tmps.getD 8 undef = Value.bool true := h.rest 8 (by kernel_rfl)
                      exact ⟨_, w, wants_none rfl, Fg.run_move rfl e8, gb_refl _ _, rfl⟩
                    refine ⟨Fg.vT rfl (by decide) fun ac w h => ?_, ?_⟩
                    · have e10 : ac.tmps.getD 10 undef = Value.bool true := h.rest 10 (by kernel_rfl)
                      exact ⟨_, w, wants_none rfl, Fg.run_move rfl e10, gb_refl _ _, rfl⟩
                    refine ⟨Fg.vT rfl (by decide) fun ac w h => ?_, ?_⟩
                    · have e80 : ac.tmps.getD 80 undef = Value.bool true := h.dep 80 (by kernel_rfl)
                      have e81 : ac.tmps.getD 81 undef = Value.bool true := h.dep 81 (by kernel_rfl)
                      refine ⟨.bool true, w, wants_none rfl, ?_, gb_refl _ _, rfl⟩
                      exact run_eqB rfl e80 e81
                    refine ⟨Fg.vT rfl (by decide) fun ac w h => ?_, ?_⟩
                    · have e82 : ac.tmps.getD 82 undef = Value.bool true := h.dep 82 (by kernel_rfl)
                      exact ⟨_, w, wants_none rfl, Fg.run_move rfl e82, gb_refl _ _, rfl⟩
                    refine ⟨Fg.vT rfl (by decide) fun ac w h => ?_, ?_⟩
                    · have e83 : ac.tmps.getD 83 undef = Value.bool true := h.dep 83 (by kernel_rfl)
                      have e2 : ac.tmps.getD 2 undef = Value.pointer (some ⟨w0.heap.size, 0, none⟩) := h.rest 2 (by kernel_rfl)
                      refine ⟨a.v, w, wants_some (d := 83) rfl rfl (by rw [h.size]; show 83 < 102; decide) e83, ?_, gb_refl _ _, rfl⟩
                      exact ldE rfl e2 (HB.out.1 w (gb_trans H15.out.1 h.base))
                    refine ⟨Fg.cT rfl (by decide) fun ac w h => ?_, ?_⟩
                    · have e83 : ac.tmps.getD 83 undef = Value.bool true := h.dep 83 (by kernel_rfl)
                      have e84 : ac.tmps.getD 84 undef = a.v := h.dep 84 (by kernel_rfl)
                      refine ⟨24, #[a.v], wants_some (d := 83) rfl rfl (by rw [h.size]; show 83 < 102; decide) e83, Fg.run_call rfl rfl (by simp only [List.map_toArray, List.map_cons, List.map_nil, Act.eval, e84]) (Fg.run_enter Tryd.func24 (by kernel_rfl) (by kernel_rfl)), ?_⟩
                      exact (c_inv a w HO.out.1).mono fun _ _ ⟨he, hg⟩ => ⟨_, he, hg, rfl⟩
                    refine ⟨Fg.vT rfl (by decide) fun ac w h => ?_, ?_⟩
                    · have e83 : ac.tmps.getD 83 undef = Value.bool true := h.dep 83 (by kernel_rfl)
                      have e5 : ac.tmps.getD 5 undef = Value.pointer (some ⟨N5, 0, none⟩) := h.rest 5 (by kernel_rfl)
                      refine ⟨nV (num a.m), w, wants_some (d := 83) rfl rfl (by rw [h.size]; show 83 < 102; decide) e83, ?_, gb_refl _ _, rfl⟩
                      exact ld rfl e5 (H15.out.2.1.grown h.base (by simp)) (num_len _) rfl rfl
                    refine ⟨Fg.cT rfl (by decide) fun ac w h => ?_, ?_⟩
                    · have e83 : ac.tmps.getD 83 undef = Value.bool true := h.dep 83 (by kernel_rfl)
                      have e86 : ac.tmps.getD 86 undef = nV (num a.m) := h.dep 86 (by kernel_rfl)
                      refine ⟨27, #[nV (num a.m)], wants_some (d := 83) rfl rfl (by rw [h.size]; show 83 < 102; decide) e83, Fg.run_call rfl rfl (by simp only [List.map_toArray, List.map_cons, List.map_nil, Act.eval, e86]) (Fg.run_enter Tryd.func27 (by kernel_rfl) (by kernel_rfl)), ?_⟩
                      exact (c_rinv a w).mono fun _ _ ⟨he, hg⟩ => ⟨_, he, hg, rfl⟩
                    refine ⟨Fg.cT rfl (by decide) fun ac w h => ?_, ?_⟩
                    · have e83 : ac.tmps.getD 83 undef = Value.bool true := h.dep 83 (by kernel_rfl)
                      have e85 : ac.tmps.getD 85 undef = (invF a).v := h.dep 85 (by kernel_rfl)
                      have e87 : ac.tmps.getD 87 undef = nV (rU (num a.m)) := h.dep 87 (by kernel_rfl)
                      refine ⟨15, #[(invF a).v, nV (rU (num a.m))], wants_some (d := 83) rfl rfl (by rw [h.size]; show 83 < 102; decide) e83, Fg.run_call rfl rfl (by simp only [List.map_toArray, List.map_cons, List.map_nil, Act.eval, e85, e87]) (Fg.run_enter Tryd.func15 (by kernel_rfl) (by kernel_rfl)), ?_⟩
                      exact (is_inv w hRa).mono fun _ _ ⟨he, hg⟩ => ⟨_, he, hg, rfl⟩
                    refine ⟨Fg.vT rfl (by decide) fun ac w h => ?_, ?_⟩
                    · have e83 : ac.tmps.getD 83 undef = Value.bool true := h.dep 83 (by kernel_rfl)
                      have e88 : ac.tmps.getD 88 undef = Value.bool true := h.dep 88 (by kernel_rfl)
                      refine ⟨Value.bool true, w, wants_none rfl, ?_, gb_refl _ _, rfl⟩
                      clear h
                      simp only [execOp, Act.eval, e83, e88]
                      go_simp
                    refine ⟨Fg.vT rfl (by decide) fun ac w h => ?_, ?_⟩
                    · have e89 : ac.tmps.getD 89 undef = Value.bool true := h.dep 89 (by kernel_rfl)
                      exact ⟨_, w, wants_none rfl, Fg.run_move rfl e89, gb_refl _ _, rfl⟩
                    refine ⟨Fg.vT rfl (by decide) fun ac w h => ?_, ?_⟩
                    · have e90 : ac.tmps.getD 90 undef = Value.bool true := h.dep 90 (by kernel_rfl)
                      have e8 : ac.tmps.getD 8 undef = Value.bool true := h.rest 8 (by kernel_rfl)
                      exact ⟨_, w, wants_some (d := 90) rfl rfl (by rw [h.size]; show 90 < 102; decide) e90, Fg.run_move rfl e8, gb_refl _ _, rfl⟩
                    refine ⟨Fg.vT rfl (by decide) fun ac w h => ?_, ?_⟩
                    · have e90 : ac.tmps.getD 90 undef = Value.bool true := h.dep 90 (by kernel_rfl)
                      have e91 : ac.tmps.getD 91 undef = Value.bool true := h.dep 91 (by kernel_rfl)
                      refine ⟨Value.bool false, w, wants_some (d := 90) rfl rfl (by rw [h.size]; show 90 < 102; decide) e90, ?_, gb_refl _ _, rfl⟩
                      clear h
                      simp only [execOp, Act.eval, e91]
                      go_simp
                    refine ⟨Fg.vT rfl (by decide) fun ac w h => ?_, ?_⟩
                    · have e90 : ac.tmps.getD 90 undef = Value.bool true := h.dep 90 (by kernel_rfl)
                      have e92 : ac.tmps.getD 92 undef = Value.bool false := h.dep 92 (by kernel_rfl)
                      exact ⟨_, w, wants_some (d := 90) rfl rfl (by rw [h.size]; show 90 < 102; decide) e90, Fg.run_move rfl e92, gb_refl _ _, rfl⟩
                    refine ⟨Fg.vT rfl (by decide) fun ac w h => ?_, ?_⟩
                    · have e93 : ac.tmps.getD 93 undef = Value.bool false := h.dep 93 (by kernel_rfl)
                      have e7 : ac.tmps.getD 7 undef = Value.pointer (some ⟨N7, 0, none⟩) := h.rest 7 (by kernel_rfl)
                      refine ⟨r2.v, w, wants_some (d := 93) rfl rfl (by rw [h.size]; show 93 < 102; decide) e93, ?_, gb_refl _ _, rfl⟩
                      exact ldE rfl e7 (H15.out.2.2.1.grown h.base (by simp))
                    refine ⟨Fg.vT rfl (by decide) fun ac w h => ?_, ?_⟩
                    · have e93 : ac.tmps.getD 93 undef = Value.bool false := h.dep 93 (by kernel_rfl)
                      have e9 : ac.tmps.getD 9 undef = Value.pointer (some ⟨N9, 0, none⟩) := h.rest 9 (by kernel_rfl)
                      refine ⟨nV s2, w, wants_some (d := 93) rfl rfl (by rw [h.size]; show 93 < 102; decide) e93, ?_, gb_refl _ _, rfl⟩
                      exact ld rfl e9 (H15.out.2.2.2.grown h.base (by simp)) H2q.out.len rfl rfl
                    refine ⟨Fg.cT rfl (by decide) fun ac w h => ?_, ?_⟩
                    · have e93 : ac.tmps.getD 93 undef = Value.bool false := h.dep 93 (by kernel_rfl)
                      have e94 : ac.tmps.getD 94 undef = r2.v := h.dep 94 (by kernel_rfl)
                      have e95 : ac.tmps.getD 95 undef = nV s2 := h.dep 95 (by kernel_rfl)
                      refine ⟨15, #[r2.v, nV s2], wants_some (d := 93) rfl rfl (by rw [h.size]; show 93 < 102; decide) e93, Fg.run_call rfl rfl (by simp only [List.map_toArray, List.map_cons, List.map_nil, Act.eval, e94, e95]) (Fg.run_enter Tryd.func15 (by kernel_rfl) (by kernel_rfl)), ?_⟩
                      exact (H2q.out.yes rfl w).mono fun _ _ ⟨he, hg⟩ => ⟨_, he, hg, rfl⟩
                    refine ⟨Fg.vT rfl (by decide) fun ac w h => ?_, ?_⟩
                    · have e90 : ac.tmps.getD 90 undef = Value.bool true := h.dep 90 (by kernel_rfl)
                      have e93 : ac.tmps.getD 93 undef = Value.bool false := h.dep 93 (by kernel_rfl)
                      have e96 : ac.tmps.getD 96 undef = Value.bool true := h.dep 96 (by kernel_rfl)
                      refine ⟨Value.bool true, w, wants_some (d := 90) rfl rfl (by rw [h.size]; show 90 < 102; decide) e90, ?_, gb_refl _ _, rfl⟩
                      clear h
                      simp only [execOp, Act.eval, e93, e96]
                      go_simp
                    refine ⟨Fg.vT rfl (by decide) fun ac w h => ?_, ?_⟩
                    · have e90 : ac.tmps.getD 90 undef = Value.bool true := h.dep 90 (by kernel_rfl)
                      have e97 : ac.tmps.getD 97 undef = Value.bool true := h.dep 97 (by kernel_rfl)
                      refine ⟨Value.bool true, w, wants_none rfl, ?_, gb_refl _ _, rfl⟩
                      clear h
                      simp only [execOp, Act.eval, e90, e97]
                      go_simp
                    refine ⟨Fg.vT rfl (by decide) fun ac w h => ?_, ?_⟩
                    · have e98 : ac.tmps.getD 98 undef = Value.bool true := h.dep 98 (by kernel_rfl)
                      exact ⟨_, w, wants_none rfl, Fg.run_move rfl e98, gb_refl _ _, rfl⟩
                    refine ⟨Fg.cT rfl (by decide) fun ac w h => ?_, ?_⟩
                    · have e99 : ac.tmps.getD 99 undef = Value.bool true := h.dep 99 (by kernel_rfl)
                      refine ⟨13, #[], wants_some (d := 99) rfl rfl (by rw [h.size]; show 99 < 102; decide) e99, Fg.run_call rfl rfl (by simp only [List.map_toArray, List.map_nil]) (Fg.run_enter Tryd.func13 (by kernel_rfl) (by kernel_rfl)), ?_⟩
                      exact (awake_any w (HT.out.grown (gb_trans H2.out.1 (gb_trans H15.out.1 h.base)))).mono fun _ _ ⟨he, hg⟩ => ⟨_, he, hg, rfl⟩
                    refine ⟨Fg.vT rfl (by decide) fun ac w h => ?_, ?_⟩
                    · have e99 : ac.tmps.getD 99 undef = Value.bool true := h.dep 99 (by kernel_rfl)
                      have e100 : ac.tmps.getD 100 undef = Value.bool true := h.dep 100 (by kernel_rfl)
                      refine ⟨Value.bool true, w, wants_none rfl, ?_, gb_refl _ _, rfl⟩
                      clear h
                      simp only [execOp, Act.eval, e99, e100]
                      go_simp
                    trivial
                  · intro az wz hB hsz hdf hrest hslots hpt
                    obtain ⟨u80, e80⟩ : ∃ u, az.tmps.getD 80 undef = u := ⟨_, rfl⟩
                    obtain ⟨u81, e81⟩ : ∃ u, az.tmps.getD 81 undef = u := ⟨_, rfl⟩
                    obtain ⟨u82, e82⟩ : ∃ u, az.tmps.getD 82 undef = u := ⟨_, rfl⟩
                    obtain ⟨u83, e83⟩ : ∃ u, az.tmps.getD 83 undef = u := ⟨_, rfl⟩
                    obtain ⟨u84, e84⟩ : ∃ u, az.tmps.getD 84 undef = u := ⟨_, rfl⟩
                    obtain ⟨u85, e85⟩ : ∃ u, az.tmps.getD 85 undef = u := ⟨_, rfl⟩
                    obtain ⟨u86, e86⟩ : ∃ u, az.tmps.getD 86 undef = u := ⟨_, rfl⟩
                    obtain ⟨u87, e87⟩ : ∃ u, az.tmps.getD 87 undef = u := ⟨_, rfl⟩
                    obtain ⟨u88, e88⟩ : ∃ u, az.tmps.getD 88 undef = u := ⟨_, rfl⟩
                    obtain ⟨u89, e89⟩ : ∃ u, az.tmps.getD 89 undef = u := ⟨_, rfl⟩
                    obtain ⟨u90, e90⟩ : ∃ u, az.tmps.getD 90 undef = u := ⟨_, rfl⟩
                    obtain ⟨u91, e91⟩ : ∃ u, az.tmps.getD 91 undef = u := ⟨_, rfl⟩
                    obtain ⟨u92, e92⟩ : ∃ u, az.tmps.getD 92 undef = u := ⟨_, rfl⟩
                    obtain ⟨u93, e93⟩ : ∃ u, az.tmps.getD 93 undef = u := ⟨_, rfl⟩
                    obtain ⟨u94, e94⟩ : ∃ u, az.tmps.getD 94 undef = u := ⟨_, rfl⟩
                    obtain ⟨u95, e95⟩ : ∃ u, az.tmps.getD 95 undef = u := ⟨_, rfl⟩
                    obtain ⟨u96, e96⟩ : ∃ u, az.tmps.getD 96 undef = u := ⟨_, rfl⟩
                    obtain ⟨u97, e97⟩ : ∃ u, az.tmps.getD 97 undef = u := ⟨_, rfl⟩
                    obtain ⟨u98, e98⟩ : ∃ u, az.tmps.getD 98 undef = u := ⟨_, rfl⟩
                    obtain ⟨u99, e99⟩ : ∃ u, az.tmps.getD 99 undef = u := ⟨_, rfl⟩
                    obtain ⟨u100, e100⟩ : ∃ u, az.tmps.getD 100 undef = u := ⟨_, rfl⟩
                    have e101 : az.tmps.getD 101 undef = Value.bool true := hslots 101 (by kernel_rfl)
                    obtain rfl := Fg.frame_is (a := az) (vs := [Value.agg #[Value.int IntKind.u64 a.x0, Value.int IntKind.u64 a.x1, Value.int IntKind.u64 a.x2, Value.int IntKind.u64 a.x3, Value.int IntKind.u64 a.x4], Value.agg #[Value.int IntKind.u64 b.x0, Value.int IntKind.u64 b.x1, Value.int IntKind.u64 b.x2, Value.int IntKind.u64 b.x3, Value.int IntKind.u64 b.x4], Value.pointer (some ⟨w0.heap.size, 0, none⟩), Value.pointer (some ⟨w0.heap.size + 1, 0, none⟩), Value.bool false, Value.pointer (some ⟨N5, 0, none⟩), Value.pointer (some ⟨N6, 0, none⟩), Value.pointer (some ⟨N7, 0, none⟩), Value.bool true, Value.pointer (some ⟨N9, 0, none⟩), Value.bool true, Value.pointer (some ⟨N11, 0, none⟩), Value.agg #[Value.int IntKind.u64 a.x0, Value.int IntKind.u64 a.x1, Value.int IntKind.u64 a.x2, Value.int IntKind.u64 a.x3, Value.int IntKind.u64 a.x4], Value.bool true, Value.bool false, Value.bool false, Value.agg #[Value.int IntKind.u64 b.x0, Value.int IntKind.u64 b.x1, Value.int IntKind.u64 b.x2, Value.int IntKind.u64 b.x3, Value.int IntKind.u64 b.x4], Value.bool true, Value.bool false, Value.bool false, undef, undef, undef, undef, undef, undef, u26, nV (num a.m), u28, nV (num b.m), Value.tuple #[r.v, Value.bool false], a.v, b.v, Value.tuple #[r.v, Value.bool false], r.v, Value.bool false, Value.tuple #[nV s, Value.bool false], nV (num a.m), nV (num b.m), Value.tuple #[nV s, Value.bool false], nV s, Value.bool false, u42, u43, u44, u45, u46, u47, u48, u49, u50, u51, u52, u53, u54, u55, u56, u57, u58, u59, u60, u61, Value.bool false, u63, u64, u65, q.v, Value.tuple #[r2.v, Value.bool true], q.v, b.v, Value.tuple #[r2.v, Value.bool true], r2.v, Value.bool true, u73, u74, u75, u76, u77, nV s2, Value.bool true, u80, u81, u82, u83, u84, u85, u86, u87, u88, u89, u90, u91, u92, u93, u94, u95, u96, u97, u98, u99, u100, Value.bool true]) hsz ⟨hrest 0 (by kernel_rfl), hrest 1 (by kernel_rfl), hrest 2 (by kernel_rfl), hrest 3 (by kernel_rfl), hrest 4 (by kernel_rfl), hrest 5 (by kernel_rfl), hrest 6 (by kernel_rfl), hrest 7 (by kernel_rfl), hrest 8 (by kernel_rfl), hrest 9 (by kernel_rfl), hrest 10 (by kernel_rfl), hrest 11 (by kernel_rfl), hrest 12 (by kernel_rfl), hrest 13 (by kernel_rfl), hrest 14 (by kernel_rfl), hrest 15 (by kernel_rfl), hrest 16 (by kernel_rfl), hrest 17 (by kernel_rfl), hrest 18 (by kernel_rfl), hrest 19 (by kernel_rfl), hrest 20 (by kernel_rfl), hrest 21 (by kernel_rfl), hrest 22 (by kernel_rfl), hrest 23 (by kernel_rfl), hrest 24 (by kernel_rfl), hrest 25 (by kernel_rfl), hrest 26 (by kernel_rfl), hrest 27 (by kernel_rfl), hrest 28 (by kernel_rfl), hrest 29 (by kernel_rfl), hrest 30 (by kernel_rfl), hrest 31 (by kernel_rfl), hrest 32 (by kernel_rfl), hrest 33 (by kernel_rfl), hrest 34 (by kernel_rfl), hrest 35 (by kernel_rfl), hrest 36 (by kernel_rfl), hrest 37 (by kernel_rfl), hrest 38 (by kernel_rfl), hrest 39 (by kernel_rfl), hrest 40 (by kernel_rfl), hrest 41 (by kernel_rfl), hrest 42 (by kernel_rfl), hrest 43 (by kernel_rfl), hrest 44 (by kernel_rfl), hrest 45 (by kernel_rfl), hrest 46 (by kernel_rfl), hrest 47 (by kernel_rfl), hrest 48 (by kernel_rfl), hrest 49 (by kernel_rfl), hrest 50 (by kernel_rfl), hrest 51 (by kernel_rfl), hrest 52 (by kernel_rfl), hrest 53 (by kernel_rfl), hrest 54 (by kernel_rfl), hrest 55 (by kernel_rfl), hrest 56 (by kernel_rfl), hrest 57 (by kernel_rfl), hrest 58 (by kernel_rfl), hrest 59 (by kernel_rfl), hrest 60 (by kernel_rfl), hrest 61 (by kernel_rfl), hrest 62 (by kernel_rfl), hrest 63 (by kernel_rfl), hrest 64 (by kernel_rfl), hrest 65 (by kernel_rfl), hrest 66 (by kernel_rfl), hrest 67 (by kernel_rfl), hrest 68 (by kernel_rfl), hrest 69 (by kernel_rfl), hrest 70 (by kernel_rfl), hrest 71 (by kernel_rfl), hrest 72 (by kernel_rfl), hrest 73 (by kernel_rfl), hrest 74 (by kernel_rfl), hrest 75 (by kernel_rfl), hrest 76 (by kernel_rfl), hrest 77 (by kernel_rfl), hrest 78 (by kernel_rfl), hrest 79 (by kernel_rfl), e80, e81, e82, e83, e84, e85, e86, e87, e88, e89, e90, e91, e92, e93, e94, e95, e96, e97, e98, e99, e100, e101, trivial⟩ hdf
                    clear hsz hdf hrest hslots hpt e80 e81 e82 e83 e84 e85 e86 e87 e88 e89 e90 e91 e92 e93 e94 e95 e96 e97 e98 e99 e100 e101
                    dsimp only
                    refine Fg.wpl_value (v := .bool true) (w' := wz) rfl (Fg.run_assign rfl rfl) ?_
                    simp only [Act.put, List.setIfInBounds_toArray, List.set_cons_succ, List.set_cons_zero]
                    refine wpList_nil ?_
                    have HF := Lib.hid (gb_trans (gb_trans H2.out.1 H15.out.1) hB); clear hB
                    go_wp2
                    go_ret
                    exact ⟨rfl, HF.out⟩
                | false =>
                  go_upto_region 13 with (fail)
                  refine Fg.region_t [] [.any, .any, .any, .any, .any, .any, .any, .any, .any, .any, .any, .any, .any, .any, .any, .any, .any, .any, .any, .any, .any, .any, .any, .any, .any, .any, .any, .any, .any, .any, .any, .any, .any, .any, .any, .any, .any, .any, .any, .any, .any, .any, .any, .any, .any, .any, .any, .any, .any, .any, .any, .any, .any, .any, .any, .any, .any, .any, .any, .any, .any, .any, .any, .any, .any, .any, .any, .any, .any, .any, .any, .any, .any, .any, .any, .any, .any, .any, .any, .any, .val (Value.bool false), .val (Value.bool false), .val (Value.bool true), .val (Value.bool true), .val (a.v), .val ((invF a).v), .val (nV (num a.m)), .val (nV (rU (num a.m))), .val (Value.bool true), .val (Value.bool true), .val (Value.bool true), .val (Value.bool false), .val (Value.bool true), .val (Value.bool true), .val undef, .val undef, .val undef, .val (Value.bool true), .val (Value.bool true), .val (Value.bool true), .val (Value.bool true), .val (Value.bool true)] w15 22 (gb_refl _ _) (by kernel_rfl) (by kernel_rfl) (by kernel_rfl) (by kernel_rfl) (by decide) (by kernel_rfl) ?_ ?_
                  · refine ⟨Fg.vT rfl (by decide) fun ac w h => ?_, ?_⟩
                    · have e8 : ac.tmps.getD 8 undef = Value.bool false := h.rest 8 (by kernel_rfl)
                      exact ⟨_, w, wants_none rfl, Fg.run_move rfl e8, gb_refl _ _, rfl⟩
                    refine ⟨Fg.vT rfl (by decide) fun ac w h => ?_, ?_⟩
                    · have e10 : ac.tmps.getD 10 undef = Value.bool false := h.rest 10 (by kernel_rfl)
                      exact ⟨_, w, wants_none rfl, Fg.run_move rfl e10, gb_refl _ _, rfl⟩
                    refine ⟨Fg.vT rfl (by decide) fun ac w h => ?_, ?_⟩
                    · have e80 : ac.tmps.getD 80 undef = Value.bool false := h.dep 80 (by kernel_rfl)
                      have e81 : ac.tmps.getD 81 undef = Value.bool false := h.dep 81 (by kernel_rfl)
                      refine ⟨.bool true, w, wants_none rfl, ?_, gb_refl _ _, rfl⟩
                      exact run_eqB rfl e80 e81
                    refine ⟨Fg.vT rfl (by decide) fun ac w h => ?_, ?_⟩
                    · have e82 : ac.tmps.getD 82 undef = Value.bool true := h.dep 82 (by kernel_rfl)
                      exact ⟨_, w, wants_none rfl, Fg.run_move rfl e82, gb_refl _ _, rfl⟩
                    refine ⟨Fg.vT rfl (by decide) fun ac w h => ?_, ?_⟩
                    · have e83 : ac.tmps.getD 83 undef = Value.bool true := h.dep 83 (by kernel_rfl)
                      have e2 : ac.tmps.getD 2 undef = Value.pointer (some ⟨w0.heap.size, 0, none⟩) := h.rest 2 (by kernel_rfl)
                      refine ⟨a.v, w, wants_some (d := 83) rfl rfl (by rw [h.size]; show 83 < 102; decide) e83, ?_, gb_refl _ _, rfl⟩
                      exact ldE rfl e2 (HB.out.1 w (gb_trans H15.out.1 h.base))
                    refine ⟨Fg.cT rfl (by decide) fun ac w h => ?_, ?_⟩
                    · have e83 : ac.tmps.getD 83 undef = Value.bool true := h.dep 83 (by kernel_rfl)
                      have e84 : ac.tmps.getD 84 undef = a.v := h.dep 84 (by kernel_rfl)
                      refine ⟨24, #[a.v], wants_some (d := 83) rfl rfl (by rw [h.size]; show 83 < 102; decide) e83, Fg.run_call rfl rfl (by simp only [List.map_toArray, List.map_cons, List.map_nil, Act.eval, e84]) (Fg.run_enter Tryd.func24 (by kernel_rfl) (by kernel_rfl)), ?_⟩
                      exact (c_inv a w HO.out.1).mono fun _ _ ⟨he, hg⟩ => ⟨_, he, hg, rfl⟩
                    refine ⟨Fg.vT rfl (by decide) fun ac w h => ?_, ?_⟩
                    · have e83 : ac.tmps.getD 83 undef = Value.bool true := h.dep 83 (by kernel_rfl)
                      have e5 : ac.tmps.getD 5 undef = Value.pointer (some ⟨N5, 0, none⟩) := h.rest 5 (by kernel_rfl)
                      refine ⟨nV (num a.m), w, wants_some (d := 83) rfl rfl (by rw [h.size]; show 83 < 102; decide) e83, ?_, gb_refl _ _, rfl⟩
                      exact ld rfl e5 (H15.out.2.1.grown h.base (by simp)) (num_len _) rfl rfl
                    refine ⟨Fg.cT rfl (by decide) fun ac w h => ?_, ?_⟩
                    · have e83 : ac.tmps.getD 83 undef = Value.bool true := h.dep 83 (by kernel_rfl)
                      have e86 : ac.tmps.getD 86 undef = nV (num a.m) := h.dep 86 (by kernel_rfl)
                      refine ⟨27, #[nV (num a.m)], wants_some (d := 83) rfl rfl (by rw [h.size]; show 83 < 102; decide) e83, Fg.run_call rfl rfl (by simp only [List.map_toArray, List.map_cons, List.map_nil, Act.eval, e86]) (Fg.run_enter Tryd.func27 (by kernel_rfl) (by kernel_rfl)), ?_⟩
                      exact (c_rinv a w).mono fun _ _ ⟨he, hg⟩ => ⟨_, he, hg, rfl⟩
                    refine ⟨Fg.cT rfl (by decide) fun ac w h => ?_, ?_⟩
                    · have e83 : ac.tmps.getD 83 undef = Value.bool true := h.dep 83 (by kernel_rfl)
                      have e85 : ac.tmps.getD 85 undef = (invF a).v := h.dep 85 (by kernel_rfl)
                      have e87 : ac.tmps.getD 87 undef = nV (rU (num a.m)) := h.dep 87 (by kernel_rfl)
                      refine ⟨15, #[(invF a).v, nV (rU (num a.m))], wants_some (d := 83) rfl rfl (by rw [h.size]; show 83 < 102; decide) e83, Fg.run_call rfl rfl (by simp only [List.map_toArray, List.map_cons, List.map_nil, Act.eval, e85, e87]) (Fg.run_enter Tryd.func15 (by kernel_rfl) (by kernel_rfl)), ?_⟩
                      exact (is_inv w hRa).mono fun _ _ ⟨he, hg⟩ => ⟨_, he, hg, rfl⟩
                    refine ⟨Fg.vT rfl (by decide) fun ac w h => ?_, ?_⟩
                    · have e83 : ac.tmps.getD 83 undef = Value.bool true := h.dep 83 (by kernel_rfl)
                      have e88 : ac.tmps.getD 88 undef = Value.bool true := h.dep 88 (by kernel_rfl)
                      refine ⟨Value.bool true, w, wants_none rfl, ?_, gb_refl _ _, rfl⟩
                      clear h
                      simp only [execOp, Act.eval, e83, e88]
                      go_simp
                    refine ⟨Fg.vT rfl (by decide) fun ac w h => ?_, ?_⟩
                    · have e89 : ac.tmps.getD 89 undef = Value.bool true := h.dep 89 (by kernel_rfl)
                      exact ⟨_, w, wants_none rfl, Fg.run_move rfl e89, gb_refl _ _, rfl⟩
                    refine ⟨Fg.vT rfl (by decide) fun ac w h => ?_, ?_⟩
                    · have e90 : ac.tmps.getD 90 undef = Value.bool true := h.dep 90 (by kernel_rfl)
                      have e8 : ac.tmps.getD 8 undef = Value.bool false := h.rest 8 (by kernel_rfl)
                      exact ⟨_, w, wants_some (d := 90) rfl rfl (by rw [h.size]; show 90 < 102; decide) e90, Fg.run_move rfl e8, gb_refl _ _, rfl⟩
                    refine ⟨Fg.vT rfl (by decide) fun ac w h => ?_, ?_⟩
                    · have e90 : ac.tmps.getD 90 undef = Value.bool true := h.dep 90 (by kernel_rfl)
                      have e91 : ac.tmps.getD 91 undef = Value.bool false := h.dep 91 (by kernel_rfl)
                      refine ⟨Value.bool true, w, wants_some (d := 90) rfl rfl (by rw [h.size]; show 90 < 102; decide) e90, ?_, gb_refl _ _, rfl⟩
                      clear h
                      simp only [execOp, Act.eval, e91]
                      go_simp
                    refine ⟨Fg.vT rfl (by decide) fun ac w h => ?_, ?_⟩
                    · have e90 : ac.tmps.getD 90 undef = Value.bool true := h.dep 90 (by kernel_rfl)
                      have e92 : ac.tmps.getD 92 undef = Value.bool true := h.dep 92 (by kernel_rfl)
                      exact ⟨_, w, wants_some (d := 90) rfl rfl (by rw [h.size]; show 90 < 102; decide) e90, Fg.run_move rfl e92, gb_refl _ _, rfl⟩
                    refine ⟨Fg.sT rfl (by decide) (fun _ => rfl) fun ac w h => ?_, ?_⟩
                    · have e93 : ac.tmps.getD 93 undef = Value.bool true := h.dep 93 (by kernel_rfl)
                      exact not_wants (d := 93) rfl rfl (by rw [h.size]; show 93 < 102; decide) e93 (by decide)
                    refine ⟨Fg.sT rfl (by decide) (fun _ => rfl) fun ac w h => ?_, ?_⟩
                    · have e93 : ac.tmps.getD 93 undef = Value.bool true := h.dep 93 (by kernel_rfl)
                      exact not_wants (d := 93) rfl rfl (by rw [h.size]; show 93 < 102; decide) e93 (by decide)
                    refine ⟨Fg.sT rfl (by decide) (fun _ => rfl) fun ac w h => ?_, ?_⟩
                    · have e93 : ac.tmps.getD 93 undef = Value.bool true := h.dep 93 (by kernel_rfl)
                      exact not_wants (d := 93) rfl rfl (by rw [h.size]; show 93 < 102; decide) e93 (by decide)
                    refine ⟨Fg.vT rfl (by decide) fun ac w h => ?_, ?_⟩
                    · have e90 : ac.tmps.getD 90 undef = Value.bool true := h.dep 90 (by kernel_rfl)
                      have e93 : ac.tmps.getD 93 undef = Value.bool true := h.dep 93 (by kernel_rfl)
                      refine ⟨Value.bool true, w, wants_some (d := 90) rfl rfl (by rw [h.size]; show 90 < 102; decide) e90, ?_, gb_refl _ _, rfl⟩
                      clear h
                      simp only [execOp, Act.eval, e93]
                      go_simp
                    refine ⟨Fg.vT rfl (by decide) fun ac w h => ?_, ?_⟩
                    · have e90 : ac.tmps.getD 90 undef = Value.bool true := h.dep 90 (by kernel_rfl)
                      have e97 : ac.tmps.getD 97 undef = Value.bool true := h.dep 97 (by kernel_rfl)
                      refine ⟨Value.bool true, w, wants_none rfl, ?_, gb_refl _ _, rfl⟩
                      clear h
                      simp only [execOp, Act.eval, e90, e97]
                      go_simp
                    refine ⟨Fg.vT rfl (by decide) fun ac w h => ?_, ?_⟩
                    · have e98 : ac.tmps.getD 98 undef = Value.bool true := h.dep 98 (by kernel_rfl)
                      exact ⟨_, w, wants_none rfl, Fg.run_move rfl e98, gb_refl _ _, rfl⟩
                    refine ⟨Fg.cT rfl (by decide) fun ac w h => ?_, ?_⟩
                    · have e99 : ac.tmps.getD 99 undef = Value.bool true := h.dep 99 (by kernel_rfl)
                      refine ⟨13, #[], wants_some (d := 99) rfl rfl (by rw [h.size]; show 99 < 102; decide) e99, Fg.run_call rfl rfl (by simp only [List.map_toArray, List.map_nil]) (Fg.run_enter Tryd.func13 (by kernel_rfl) (by kernel_rfl)), ?_⟩
                      exact (awake_any w (HT.out.grown (gb_trans H2.out.1 (gb_trans H15.out.1 h.base)))).mono fun _ _ ⟨he, hg⟩ => ⟨_, he, hg, rfl⟩
                    refine ⟨Fg.vT rfl (by decide) fun ac w h => ?_, ?_⟩
                    · have e99 : ac.tmps.getD 99 undef = Value.bool true := h.dep 99 (by kernel_rfl)
                      have e100 : ac.tmps.getD 100 undef = Value.bool true := h.dep 100 (by kernel_rfl)
                      refine ⟨Value.bool true, w, wants_none rfl, ?_, gb_refl _ _, rfl⟩
                      clear h
                      simp only [execOp, Act.eval, e99, e100]
                      go_simp
                    trivial
                  · intro az wz hB hsz hdf hrest hslots hpt
                    obtain ⟨u80, e80⟩ : ∃ u, az.tmps.getD 80 undef = u := ⟨_, rfl⟩
                    obtain ⟨u81, e81⟩ : ∃ u, az.tmps.getD 81 undef = u := ⟨_, rfl⟩
                    obtain ⟨u82, e82⟩ : ∃ u, az.tmps.getD 82 undef = u := ⟨_, rfl⟩
                    obtain ⟨u83, e83⟩ : ∃ u, az.tmps.getD 83 undef = u := ⟨_, rfl⟩
                    obtain ⟨u84, e84⟩ : ∃ u, az.tmps.getD 84 undef = u := ⟨_, rfl⟩
                    obtain ⟨u85, e85⟩ : ∃ u, az.tmps.getD 85 undef = u := ⟨_, rfl⟩
                    obtain ⟨u86, e86⟩ : ∃ u, az.tmps.getD 86 undef = u := ⟨_, rfl⟩
                    obtain ⟨u87, e87⟩ : ∃ u, az.tmps.getD 87 undef = u := ⟨_, rfl⟩
                    obtain ⟨u88, e88⟩ : ∃ u, az.tmps.getD 88 undef = u := ⟨_, rfl⟩
                    obtain ⟨u89, e89⟩ : ∃ u, az.tmps.getD 89 undef = u := ⟨_, rfl⟩
                    obtain ⟨u90, e90⟩ : ∃ u, az.tmps.getD 90 undef = u := ⟨_, rfl⟩
                    obtain ⟨u91, e91⟩ : ∃ u, az.tmps.getD 91 undef = u := ⟨_, rfl⟩
                    obtain ⟨u92, e92⟩ : ∃ u, az.tmps.getD 92 undef = u := ⟨_, rfl⟩
                    obtain ⟨u93, e93⟩ : ∃ u, az.tmps.getD 93 undef = u := ⟨_, rfl⟩
                    obtain ⟨u94, e94⟩ : ∃ u, az.tmps.getD 94 undef = u := ⟨_, rfl⟩
                    obtain ⟨u95, e95⟩ : ∃ u, az.tmps.getD 95 undef = u := ⟨_, rfl⟩
                    obtain ⟨u96, e96⟩ : ∃ u, az.tmps.getD 96 undef = u := ⟨_, rfl⟩
                    obtain ⟨u97, e97⟩ : ∃ u, az.tmps.getD 97 undef = u := ⟨_, rfl⟩
                    obtain ⟨u98, e98⟩ : ∃ u, az.tmps.getD 98 undef = u := ⟨_, rfl⟩
                    obtain ⟨u99, e99⟩ : ∃ u, az.tmps.getD 99 undef = u := ⟨_, rfl⟩
                    obtain ⟨u100, e100⟩ : ∃ u, az.tmps.getD 100 undef = u := ⟨_, rfl⟩
                    have e101 : az.tmps.getD 101 undef = Value.bool true := hslots 101 (by kernel_rfl)
                    obtain rfl := Fg.frame_is (a := az) (vs := [Value.agg #[Value.int IntKind.u64 a.x0, Value.int IntKind.u64 a.x1, Value.int IntKind.u64 a.x2, Value.int IntKind.u64 a.x3, Value.int IntKind.u64 a.x4], Value.agg #[Value.int IntKind.u64 b.x0, Value.int IntKind.u64 b.x1, Value.int IntKind.u64 b.x2, Value.int IntKind.u64 b.x3, Value.int IntKind.u64 b.x4], Value.pointer (some ⟨w0.heap.size, 0, none⟩), Value.pointer (some ⟨w0.heap.size + 1, 0, none⟩), Value.bool false, Value.pointer (some ⟨N5, 0, none⟩), Value.pointer (some ⟨N6, 0, none⟩), Value.pointer (some ⟨N7, 0, none⟩), Value.bool false, Value.pointer (some ⟨N9, 0, none⟩), Value.bool false, Value.pointer (some ⟨N11, 0, none⟩), Value.agg #[Value.int IntKind.u64 a.x0, Value.int IntKind.u64 a.x1, Value.int IntKind.u64 a.x2, Value.int IntKind.u64 a.x3, Value.int IntKind.u64 a.x4], Value.bool true, Value.bool false, Value.bool false, Value.agg #[Value.int IntKind.u64 b.x0, Value.int IntKind.u64 b.x1, Value.int IntKind.u64 b.x2, Value.int IntKind.u64 b.x3, Value.int IntKind.u64 b.x4], Value.bool true, Value.bool false, Value.bool false, undef, undef, undef, undef, undef, undef, u26, nV (num a.m), u28, nV (num b.m), Value.tuple #[r.v, Value.bool false], a.v, b.v, Value.tuple #[r.v, Value.bool false], r.v, Value.bool false, Value.tuple #[nV s, Value.bool false], nV (num a.m), nV (num b.m), Value.tuple #[nV s, Value.bool false], nV s, Value.bool false, u42, u43, u44, u45, u46, u47, u48, u49, u50, u51, u52, u53, u54, u55, u56, u57, u58, u59, u60, u61, Value.bool false, u63, u64, u65, q.v, Value.tuple #[r2.v, Value.bool false], q.v, b.v, Value.tuple #[r2.v, Value.bool false], r2.v, Value.bool false, u73, u74, u75, u76, u77, nV s2, Value.bool false, u80, u81, u82, u83, u84, u85, u86, u87, u88, u89, u90, u91, u92, u93, u94, u95, u96, u97, u98, u99, u100, Value.bool true]) hsz ⟨hrest 0 (by kernel_rfl), hrest 1 (by kernel_rfl), hrest 2 (by kernel_rfl), hrest 3 (by kernel_rfl), hrest 4 (by kernel_rfl), hrest 5 (by kernel_rfl), hrest 6 (by kernel_rfl), hrest 7 (by kernel_rfl), hrest 8 (by kernel_rfl), hrest 9 (by kernel_rfl), hrest 10 (by kernel_rfl), hrest 11 (by kernel_rfl), hrest 12 (by kernel_rfl), hrest 13 (by kernel_rfl), hrest 14 (by kernel_rfl), hrest 15 (by kernel_rfl), hrest 16 (by kernel_rfl), hrest 17 (by kernel_rfl), hrest 18 (by kernel_rfl), hrest 19 (by kernel_rfl), hrest 20 (by kernel_rfl), hrest 21 (by kernel_rfl), hrest 22 (by kernel_rfl), hrest 23 (by kernel_rfl), hrest 24 (by kernel_rfl), hrest 25 (by kernel_rfl), hrest 26 (by kernel_rfl), hrest 27 (by kernel_rfl), hrest 28 (by kernel_rfl), hrest 29 (by kernel_rfl), hrest 30 (by kernel_rfl), hrest 31 (by kernel_rfl), hrest 32 (by kernel_rfl), hrest 33 (by kernel_rfl), hrest 34 (by kernel_rfl), hrest 35 (by kernel_rfl), hrest 36 (by kernel_rfl), hrest 37 (by kernel_rfl), hrest 38 (by kernel_rfl), hrest 39 (by kernel_rfl), hrest 40 (by kernel_rfl), hrest 41 (by kernel_rfl), hrest 42 (by kernel_rfl), hrest 43 (by kernel_rfl), hrest 44 (by kernel_rfl), hrest 45 (by kernel_rfl), hrest 46 (by kernel_rfl), hrest 47 (by kernel_rfl), hrest 48 (by kernel_rfl), hrest 49 (by kernel_rfl), hrest 50 (by kernel_rfl), hrest 51 (by kernel_rfl), hrest 52 (by kernel_rfl), hrest 53 (by kernel_rfl), hrest 54 (by kernel_rfl), hrest 55 (by kernel_rfl), hrest 56 (by kernel_rfl), hrest 57 (by kernel_rfl), hrest 58 (by kernel_rfl), hrest 59 (by kernel_rfl), hrest 60 (by kernel_rfl), hrest 61 (by kernel_rfl), hrest 62 (by kernel_rfl), hrest 63 (by kernel_rfl), hrest 64 (by kernel_rfl), hrest 65 (by kernel_rfl), hrest 66 (by kernel_rfl), hrest 67 (by kernel_rfl), hrest 68 (by kernel_rfl), hrest 69 (by kernel_rfl), hrest 70 (by kernel_rfl), hrest 71 (by kernel_rfl), hrest 72 (by kernel_rfl), hrest 73 (by kernel_rfl), hrest 74 (by kernel_rfl), hrest 75 (by kernel_rfl), hrest 76 (by kernel_rfl), hrest 77 (by kernel_rfl), hrest 78 (by kernel_rfl), hrest 79 (by kernel_rfl), e80, e81, e82, e83, e84, e85, e86, e87, e88, e89, e90, e91, e92, e93, e94, e95, e96, e97, e98, e99, e100, e101, trivial⟩ hdf
                    clear hsz hdf hrest hslots hpt e80 e81 e82 e83 e84 e85 e86 e87 e88 e89 e90 e91 e92 e93 e94 e95 e96 e97 e98 e99 e100 e101
                    dsimp only
                    refine Fg.wpl_value (v := .bool true) (w' := wz) rfl (Fg.run_assign rfl rfl) ?_
                    simp only [Act.put, List.setIfInBounds_toArray, List.set_cons_succ, List.set_cons_zero]
                    refine wpList_nil ?_
                    have HF := Lib.hid (gb_trans (gb_trans H2.out.1 H15.out.1) hB); clear hB
                    go_wp2
                    go_ret
                    exact ⟨rfl, HF.out⟩
end Nr
end Go.Proofs.YtjgfhihngbhljaaDoor
