/- The law's is: an element held against the document's number. -/
import Derived.Test.YtjgfhihngbhljaaDoorNrBytes
import Derived.Test.YtjgfhihngbhljaaDoorRowsBox
import Derived.Test.YtjgfhihngbhljaaDoorFlowTB
import Derived.Test.YtjgfhihngbhljaaDoorFeFlow3
namespace Go.Proofs.YtjgfhihngbhljaaDoor
open Go.RowKit Ns Ow
namespace Nr
theorem info_elem5 : (Tryd.prog.info? 24).map (·.size) = some 5 := by kernel_rfl
/-- an element's limbs -/
def feN (a : Fe) : List Nat := [a.x0.toNat, a.x1.toNat, a.x2.toNat, a.x3.toNat, a.x4.toNat]
theorem feN_v {a : Fe} (h : a.Ok) : a.v = .agg (pL (feN a)).toArray := by
  obtain ⟨n0, n1, n2, n3, n4, _, _, _, _, _⟩ := h
  unfold Fe.v feN pL pV
  simp
  omega
theorem feN_V {a : Fe} (h : a.Ok) : ((limbsV (feN a) : Nat) : Int) = a.V := by
  obtain ⟨n0, n1, n2, n3, n4, _, _, _, _, _⟩ := h
  unfold feN Fe.V
  simp only [limbsV]
  omega
theorem feN_m {a : Fe} (h : a.Ok) : num (limbsV (feN a)) = num a.m := by
  have := feN_V h
  have hm : a.m = limbsV (feN a) % Fe.P := by
    unfold Fe.m
    rw [← this, ← Int.natCast_emod, Int.toNat_natCast]
  rw [hm]
  apply num_congr
  show _ = limbsV (feN a) % Fe.P % (2 ^ 255 - 19)
  have hp : Fe.P = 2 ^ 255 - 19 := by decide
  rw [hp, Nat.mod_mod]
theorem feN_all {a : Fe} : (feN a).all (fun n => decide (n < 4503599627370496)) = (decide (a.x0.toNat < 4503599627370496) && (decide (a.x1.toNat < 4503599627370496) && (decide (a.x2.toNat < 4503599627370496) && (decide (a.x3.toNat < 4503599627370496) && (decide (a.x4.toNat < 4503599627370496)))))) := by
  simp [feN]
theorem feN_right {a : Fe} (h : a.Right) : (feN a).all (fun n => decide (n < 4503599627370496)) = true := by
  rw [feN_all]
  have := h.l0; have := h.l1; have := h.l2; have := h.l3; have := h.l4
  simp only [Bool.and_eq_true, decide_eq_true_eq]
  omega
theorem feN_lt {a : Fe} (h : a.Right) (j : Nat) : (feN a).getD j 0 < 4503599627370496 := by
  have := h.l0; have := h.l1; have := h.l2; have := h.l3; have := h.l4
  rcases j with _ | _ | _ | _ | _ | j
  · show a.x0.toNat < _; omega
  · show a.x1.toNat < _; omega
  · show a.x2.toNat < _; omega
  · show a.x3.toNat < _; omega
  · show a.x4.toNat < _; omega
  · show (0 : Nat) < _; omega
/-- the bytes of a value's parts -/
theorem byL_parts (n : Nat) : ∀ v : Nat, byL (parts n v) = (List.range (2 * n)).map fun i => v / 256 ^ i % 256 := by
  induction n with
  | zero => intro v; rfl
  | succ n ih =>
    intro v
    rw [parts, byL, ih, show 2 * (n + 1) = (2 * n + 1) + 1 by omega, List.range_succ_eq_map, List.map_cons, List.range_succ_eq_map, List.map_cons, List.map_cons, List.map_map, List.map_map]
    congr 1
    · simp
      first | done | omega
    · congr 1
      · simp
        first | done | omega
      · apply List.map_congr_left
        intro i _
        show v / 65536 / 256 ^ i % 256 = v / 256 ^ (i + 1 + 1) % 256
        rw [Nat.div_div_eq_div_mul, Nat.pow_succ, Nat.pow_succ, Nat.mul_assoc, Nat.mul_comm (256 ^ i)]
theorem bytesV_is (v : Nat) (h : v < 2 ^ 255 - 19) : bytesV (v : Int) = (byL (num v)).map u8N := by
  unfold num bytesV
  rw [Nat.mod_eq_of_lt h, byL_parts, List.map_map]
  apply List.map_congr_left
  intro i _
  show Value.int .u8 ((v : Int) / 2 ^ (8 * i) % 256) = Value.int .u8 ((v / 256 ^ i % 256 : Nat) : Int)
  rw [Int.natCast_emod, Int.natCast_ediv, Int.natCast_pow, show (256 : Nat) = 2 ^ 8 by decide, Int.pow_mul]
  rfl
theorem num_bytes (v i : Nat) : (byL (num v)).getD i 0 < 256 := by
  unfold num
  rw [byL_parts, List.getD_eq_getElem?_getD, List.getElem?_map]
  by_cases hi : i < 2 * 16
  · rw [List.getElem?_range hi]; exact Nat.mod_lt _ (by decide)
  · rw [List.getElem?_eq_none (by rw [List.length_range]; omega)]; show (0 : Nat) < 256; decide
theorem num_bytes_len (v : Nat) : (byL (num v)).length = 32 := by rw [byL_len, num_len]
set_option maxHeartbeats 1000000 in
theorem same_row (p : List Nat) (a1 a2 : Option Addr) (c1 c2 B1 B2 : Nat) (w : World) (h1 : BytesAt w B1 a1 c1 p) (h2 : BytesAt w B2 a2 c2 p) :
    Calls Tryd.prog 35 #[.slice a1 p.length c1, .slice a2 p.length c2] w fun e w' => e = .returned (.bool true) ∧ w.grownBy w' none := by
  have hp1 := h1.fits
  have hc1 := h1.top
  have H1 := Lib.hid h1; clear h1
  have H2 := Lib.hid h2; clear h2
  go_enter Tryd.func35, Tryd.ntmps35
  go_wp2
  go_loopw [5] (fun i wr => ∃ k j : Nat, k ≤ p.length ∧ i = .int .i64 k ∧ wr = w.drewN j) (fun i _ => p.length - (intOf i).toNat)
  case atStart => exact ⟨0, 0, by omega, rfl, rfl⟩
  case round =>
    obtain ⟨k, j, hk, rfl, rfl⟩ := hrel
    by_cases hlt : k < p.length
    · obtain ⟨pb, po, rfl, _, hc⟩ := H1.out.cells.resolve_left (by omega)
      obtain ⟨qb, qo, rfl, _, hd⟩ := H2.out.cells.resolve_left (by omega)
      have k1 := hc k hlt
      have k2 := hd k hlt
      unfold u8N at k1 k2
      clear hc hd
      generalize p.getD k 0 = x at *
      have i0 : (k : Int) < (p.length : Int) := by omega
      go_wp2_with fail
      go_quiet (fail)
      go_wp2
      go_roundw
      case rel => exact ⟨k + 1, _, by omega, by go_num, rfl⟩
      case measure => simp [intOf]; omega
    · obtain rfl : k = p.length := by omega
      clear hlt
      go_wp2
      go_ret
      exact ⟨rfl, gb_drewN (gb_refl _ _) _⟩
theorem n_eqItems {P : Program} (w : World) (d : Nat) {e : TypeId} {k : IntKind} (he : P.plainKey e = true) (hu : P.underlying e = some (.int k)) (f g : Nat → Int) (xs ys : Array Value) (is : List Nat)
    (hx : ∀ i ∈ is, xs[i * 1]? = some (.int k (f i))) (hy : ∀ i ∈ is, ys[i * 1]? = some (.int k (g i))) : (Op.eqItems (d + 1) e 1 xs ys is).run P w = .ok (is.all fun i => f i == g i) w := by
  induction is with
  | nil => simp [Op.eqItems]
  | cons i r ih =>
    have h1 := run_part_plain w he (hx i (List.mem_cons_self ..))
    have h2 := run_part_plain w he (hy i (List.mem_cons_self ..))
    simp only [Op.eqItems, Sem.run_bind, h1, h2, Result.andThen_ok, run_equalIn_int w d e k k (f i) (g i) hu, List.all_cons]
    cases hfg : f i == g i
    · simp
    · simpa using ih (fun j hj => hx j (List.mem_cons_of_mem _ hj)) (fun j hj => hy j (List.mem_cons_of_mem _ hj))
theorem eql_N (l m : List Nat) (hl : l.length = 16) (hm : m.length = 16) (w : World) : (binOp .eql 33 (nV l) (nV m)).run Tryd.prog w = .ok (.bool (decide (l = m))) w := by
  obtain ⟨j, hj⟩ : ∃ i, Tryd.prog.info? 22 = some i := by
    cases h : Tryd.prog.info? 22 with
    | none => exact absurd h (by have : (Tryd.prog.info? 22).isSome = true := by kernel_rfl
                                 intro e; rw [e] at this; cases this)
    | some i => exact ⟨i, rfl⟩
  have hc : Tryd.prog.cellsOf 22 = 1 := by kernel_rfl
  have hg : ∀ (q : List Nat), q.length = 16 → ∀ i ∈ List.range 16, (pL q).toArray[i * 1]? = some (.int .u64 ((q.getD i 0 : Nat) : Int)) := fun q hq i hi => by
    rw [Nat.mul_one, List.getElem?_toArray]
    exact pL_get q i (by have := List.mem_range.1 hi; omega)
  unfold nV
  rw [run_eql_struct, run_equalIn_array w 9999 _ _ Tryd.underlying33 hj, hc,
    n_eqItems w 9998 (by kernel_rfl) Tryd.underlying22 (fun i => ((l.getD i 0 : Nat) : Int)) (fun i => ((m.getD i 0 : Nat) : Int)) _ _ _ (hg l hl) (hg m hm)]
  have e : ((List.range 16).all fun i => ((l.getD i 0 : Nat) : Int) == ((m.getD i 0 : Nat) : Int)) = decide (l = m) := by
    rw [Bool.eq_iff_iff, List.all_eq_true, decide_eq_true_iff]
    constructor
    · intro h
      apply List.ext_getElem (by rw [hl, hm])
      intro i h1 h2
      have := h i (List.mem_range.2 (by omega))
      rw [beq_iff_eq, List.getD_eq_getElem?_getD, List.getD_eq_getElem?_getD, List.getElem?_eq_getElem h1, List.getElem?_eq_getElem h2] at this
      have h3 : ((l[i] : Nat) : Int) = ((m[i] : Nat) : Int) := by simpa using this
      omega
    · rintro rfl i _
      simp
  rw [← e]
  rfl
theorem guard_N (op : BinOp) (x y : Operand) (l m : List Nat) (w : World) : (eqGuard op 33 x y (nV l) (nV m)).run Tryd.prog w = .ok () w := by
  have h : Tryd.prog.eqGuardType Tryd.prog.depth 33 = false := by kernel_rfl
  unfold eqGuard nV
  cases op <;> simp [h]
theorem run_eqN {ρ : Operand → Value} {o : Oper} {w : World} {x y : Operand} {t : TypeId} {l m : List Nat} (ho : o.op = .binOp .eql 33 x y t) (hx : ρ x = nV l) (hy : ρ y = nV m) (hl : l.length = 16) (hm : m.length = 16) : (execOp ρ o).run Tryd.prog w = .ok (.value (.bool (decide (l = m)))) w := by
  unfold execOp
  simp only [ho, hx, hy, Sem.run_bind, guard_N, eql_N l m hl hm, Result.andThen_ok, Sem.run_pure]
theorem put_out (a : Fe) (w : World) (ha : a.Ok) : Calls Tryd.prog 6 #[.agg (pL (feN a)).toArray] w (YOut w (byL (num a.m))) := by
  rw [← feN_v ha]
  refine (put_any a w ha).mono ?_
  rintro e w' ⟨NB, rfl, hg, _, hb⟩
  have hm : a.m < 2 ^ 255 - 19 := by
    have hp : Fe.P = 2 ^ 255 - 19 := by decide
    have h0 : (0 : Int) < (Fe.P : Int) := by rw [hp]; decide
    have := Int.emod_lt_of_pos a.V h0
    have h1 := Int.emod_nonneg a.V (Int.ne_of_gt h0)
    unfold Fe.m
    rw [← hp]
    omega
  rw [bytesV_is a.m hm] at hb
  exact ⟨some ⟨NB, 0, none⟩, 32, by rw [num_bytes_len], hg, blk_bytes (tl := []) (by rw [List.append_nil]; exact hb) rfl (by rw [num_bytes_len]; omega) (by omega) (num_bytes a.m) hb.lt (Nat.le_refl _)⟩
theorem bytes_out (v : Nat) (w : World) : Calls Tryd.prog 37 #[nV (num v)] w (YOut w (byL (num v))) := by
  refine (bytes_any (num v) w (num_whole v) (num_len v)).mono ?_
  rintro e w' ⟨g, c, rfl, hg, ho⟩
  obtain ⟨g', c', e, _, hcc, hcm, hlt⟩ := own_some ho (by decide)
  cases e
  refine ⟨some ⟨g, 0, none⟩, c, by rw [num_bytes_len], hg, Nat.le_refl _, by rw [num_bytes_len]; exact hcc, by unfold maxLen at hcm; omega, num_bytes v, Or.inr ⟨g, 0, rfl, hlt, fun i hi => ?_⟩⟩
  rw [Nat.zero_add]
  exact own_cell ho (u8_getD hi)
set_option maxRecDepth 100000 in
set_option maxHeartbeats 4000000 in
theorem is_yes (a : Fe) (v : Nat) (w0 : World) (ha : a.Right) (hv : num a.m = num v) : Calls Tryd.prog 15 #[a.v, nV (num v)] w0 fun e w' => e = .returned (.bool true) ∧ w0.grownBy w' none := by
  have hok := ha.ok
  rw [← hv]
  have c1 := fun w => right_any (feN a) w rfl (fun j => Nat.lt_trans (feN_lt ha j) (by decide))
  rw [feN_right ha] at c1
  have c2 := fun w => from_any (feN a) w rfl (feN_lt ha)
  rw [feN_m hok] at c2
  have c3 := fun w => eql_N (num a.m) (num a.m) (num_len _) (num_len _) w
  have c4 := fun w => put_out a w hok
  have c5 := fun w => bytes_out a.m w
  rw [feN_v hok]
  have hE5 : (feN a).length = 5 := rfl
  have hl : (num a.m).length = 16 := num_len _
  rw [decide_eq_true (rfl : num a.m = num a.m)] at c3
  obtain ⟨L, hL⟩ : ∃ L, L = byL (num a.m) := ⟨_, rfl⟩
  rw [← hL] at c4 c5
  have HL := Lib.hid hL; clear hL
  generalize num a.m = l at *
  generalize feN a = E at *
  have HC := Lib.hid (And.intro c1 (And.intro c2 (And.intro c3 (And.intro c4 c5)))); clear c1 c2 c3 c4 c5 hv ha hok
  clear HL
  unfold nV
  go_enter Tryd.func15, Tryd.ntmps15
  go_upto_region 1 with (fail)
  have b1 := (Blk.new w0 (pL E) 24).alloc (.cells (pL l).toArray 33)
  have b2 := new (w := w0.alloc (.cells (pL E).toArray 24)) (B := w0.heap.size + 1) (by simp) l
  have g2 := gb_alloc (gb_alloc (gb_refl w0 none) (.cells (pL E).toArray 24)) (.cells (pL l).toArray 33)
  revert g2; revert b2; revert b1
  generalize (w0.alloc (.cells (pL E).toArray 24)).alloc (.cells (pL l).toArray 33) = w2
  intro b1 b2 g2
  have H2 := Lib.hid (And.intro g2 (And.intro b1 b2)); clear g2 b1 b2
  refine Fg.region_t [] [.any, .any, .any, .any, .any, .val (Value.agg (pL E).toArray), .val (Value.bool true), .val (Value.bool true), .val (Value.agg (pL E).toArray), .val (nV l), .val (nV l), .val (Value.bool true), .val (Value.bool true), .val (Value.bool true), .val (Value.agg (pL E).toArray), Fg.It.by L, .val (nV l), Fg.It.by L, .val (Value.bool true), .val (Value.bool true)] w2 15 (gb_refl _ _) (by kernel_rfl) (by kernel_rfl) (by kernel_rfl) (by kernel_rfl) (by decide) (by kernel_rfl) ?_ ?_
  · refine ⟨Fg.vT rfl (by decide) fun ac w h => ?_, ?_⟩
    · have e2 : ac.tmps.getD 2 undef = Value.pointer (some ⟨w0.heap.size, 0, none⟩) := h.rest 2 (by kernel_rfl)
      refine ⟨.agg (pL E).toArray, w, wants_none rfl, ?_, gb_refl _ _, rfl⟩
      exact Fg.run_load rfl e2 ((H2.out.2.1.grown h.base (by simp)).range 0 (pL E) (by rw [List.drop_zero, List.take_length])) Tryd.underlying24 rfl (by rw [pL_len, hE5]; exact info_elem5)
    refine ⟨Fg.cT rfl (by decide) fun ac w h => ?_, ?_⟩
    · have e5 : ac.tmps.getD 5 undef = Value.agg (pL E).toArray := h.dep 5 (by kernel_rfl)
      refine ⟨5, #[Value.agg (pL E).toArray], wants_none rfl, Fg.run_call rfl rfl (by simp only [List.map_toArray, List.map_cons, List.map_nil, Act.eval, e5]) (Fg.run_enter Tryd.func5 (by kernel_rfl) (by kernel_rfl)), ?_⟩
      exact (HC.out.1 w).mono fun _ _ ⟨he, hg⟩ => ⟨_, he, hg, rfl⟩
    refine ⟨Fg.vT rfl (by decide) fun ac w h => ?_, ?_⟩
    · have e6 : ac.tmps.getD 6 undef = Value.bool true := h.dep 6 (by kernel_rfl)
      exact ⟨_, w, wants_none rfl, Fg.run_move rfl e6, gb_refl _ _, rfl⟩
    refine ⟨Fg.vT rfl (by decide) fun ac w h => ?_, ?_⟩
    · have e7 : ac.tmps.getD 7 undef = Value.bool true := h.dep 7 (by kernel_rfl)
      have e2 : ac.tmps.getD 2 undef = Value.pointer (some ⟨w0.heap.size, 0, none⟩) := h.rest 2 (by kernel_rfl)
      refine ⟨.agg (pL E).toArray, w, wants_some (d := 7) rfl rfl (by rw [h.size]; show 7 < 20; decide) e7, ?_, gb_refl _ _, rfl⟩
      exact Fg.run_load rfl e2 ((H2.out.2.1.grown h.base (by simp)).range 0 (pL E) (by rw [List.drop_zero, List.take_length])) Tryd.underlying24 rfl (by rw [pL_len, hE5]; exact info_elem5)
    refine ⟨Fg.cT rfl (by decide) fun ac w h => ?_, ?_⟩
    · have e7 : ac.tmps.getD 7 undef = Value.bool true := h.dep 7 (by kernel_rfl)
      have e8 : ac.tmps.getD 8 undef = Value.agg (pL E).toArray := h.dep 8 (by kernel_rfl)
      refine ⟨14, #[Value.agg (pL E).toArray], wants_some (d := 7) rfl rfl (by rw [h.size]; show 7 < 20; decide) e7, Fg.run_call rfl rfl (by simp only [List.map_toArray, List.map_cons, List.map_nil, Act.eval, e8]) (Fg.run_enter Tryd.func14 (by kernel_rfl) (by kernel_rfl)), ?_⟩
      exact (HC.out.2.1 w).mono fun _ _ ⟨he, hg⟩ => ⟨_, he, hg, rfl⟩
    refine ⟨Fg.vT rfl (by decide) fun ac w h => ?_, ?_⟩
    · have e7 : ac.tmps.getD 7 undef = Value.bool true := h.dep 7 (by kernel_rfl)
      have e3 : ac.tmps.getD 3 undef = Value.pointer (some ⟨w0.heap.size + 1, 0, none⟩) := h.rest 3 (by kernel_rfl)
      refine ⟨nV l, w, wants_some (d := 7) rfl rfl (by rw [h.size]; show 7 < 20; decide) e7, ?_, gb_refl _ _, rfl⟩
      exact ld rfl e3 (H2.out.2.2.grown h.base (by simp)) hl rfl rfl
    refine ⟨Fg.vT rfl (by decide) fun ac w h => ?_, ?_⟩
    · have e7 : ac.tmps.getD 7 undef = Value.bool true := h.dep 7 (by kernel_rfl)
      have e9 : ac.tmps.getD 9 undef = nV l := h.dep 9 (by kernel_rfl)
      have e10 : ac.tmps.getD 10 undef = nV l := h.dep 10 (by kernel_rfl)
      refine ⟨.bool true, w, wants_some (d := 7) rfl rfl (by rw [h.size]; show 7 < 20; decide) e7, ?_, gb_refl _ _, rfl⟩
      rw [run_eqN rfl e9 e10 hl hl, decide_eq_true rfl]
    refine ⟨Fg.vT rfl (by decide) fun ac w h => ?_, ?_⟩
    · have e7 : ac.tmps.getD 7 undef = Value.bool true := h.dep 7 (by kernel_rfl)
      have e11 : ac.tmps.getD 11 undef = Value.bool true := h.dep 11 (by kernel_rfl)
      refine ⟨Value.bool true, w, wants_none rfl, ?_, gb_refl _ _, rfl⟩
      clear h
      simp only [execOp, Act.eval, e7, e11]
      go_simp
    refine ⟨Fg.vT rfl (by decide) fun ac w h => ?_, ?_⟩
    · have e12 : ac.tmps.getD 12 undef = Value.bool true := h.dep 12 (by kernel_rfl)
      exact ⟨_, w, wants_none rfl, Fg.run_move rfl e12, gb_refl _ _, rfl⟩
    refine ⟨Fg.vT rfl (by decide) fun ac w h => ?_, ?_⟩
    · have e13 : ac.tmps.getD 13 undef = Value.bool true := h.dep 13 (by kernel_rfl)
      have e2 : ac.tmps.getD 2 undef = Value.pointer (some ⟨w0.heap.size, 0, none⟩) := h.rest 2 (by kernel_rfl)
      refine ⟨.agg (pL E).toArray, w, wants_some (d := 13) rfl rfl (by rw [h.size]; show 13 < 20; decide) e13, ?_, gb_refl _ _, rfl⟩
      exact Fg.run_load rfl e2 ((H2.out.2.1.grown h.base (by simp)).range 0 (pL E) (by rw [List.drop_zero, List.take_length])) Tryd.underlying24 rfl (by rw [pL_len, hE5]; exact info_elem5)
    refine ⟨Fg.cT rfl (by decide) fun ac w h => ?_, ?_⟩
    · have e13 : ac.tmps.getD 13 undef = Value.bool true := h.dep 13 (by kernel_rfl)
      have e14 : ac.tmps.getD 14 undef = Value.agg (pL E).toArray := h.dep 14 (by kernel_rfl)
      refine ⟨6, #[Value.agg (pL E).toArray], wants_some (d := 13) rfl rfl (by rw [h.size]; show 13 < 20; decide) e13, Fg.run_call rfl rfl (by simp only [List.map_toArray, List.map_cons, List.map_nil, Act.eval, e14]) (Fg.run_enter Tryd.func6 (by kernel_rfl) (by kernel_rfl)), ?_⟩
      exact (HC.out.2.2.2.1 w).mono fun _ _ ⟨_, _, he, hg, hb⟩ => ⟨_, he, hg, _, _, _, rfl, hb⟩
    refine ⟨Fg.vT rfl (by decide) fun ac w h => ?_, ?_⟩
    · have e13 : ac.tmps.getD 13 undef = Value.bool true := h.dep 13 (by kernel_rfl)
      have e3 : ac.tmps.getD 3 undef = Value.pointer (some ⟨w0.heap.size + 1, 0, none⟩) := h.rest 3 (by kernel_rfl)
      refine ⟨nV l, w, wants_some (d := 13) rfl rfl (by rw [h.size]; show 13 < 20; decide) e13, ?_, gb_refl _ _, rfl⟩
      exact ld rfl e3 (H2.out.2.2.grown h.base (by simp)) hl rfl rfl
    refine ⟨Fg.cT rfl (by decide) fun ac w h => ?_, ?_⟩
    · have e13 : ac.tmps.getD 13 undef = Value.bool true := h.dep 13 (by kernel_rfl)
      have e16 : ac.tmps.getD 16 undef = nV l := h.dep 16 (by kernel_rfl)
      refine ⟨37, #[nV l], wants_some (d := 13) rfl rfl (by rw [h.size]; show 13 < 20; decide) e13, Fg.run_call rfl rfl (by simp only [List.map_toArray, List.map_cons, List.map_nil, Act.eval, e16]) (Fg.run_enter Tryd.func37 (by kernel_rfl) (by kernel_rfl)), ?_⟩
      exact (HC.out.2.2.2.2 w).mono fun _ _ ⟨_, _, he, hg, hb⟩ => ⟨_, he, hg, _, _, _, rfl, hb⟩
    refine ⟨Fg.cT rfl (by decide) fun ac w h => ?_, ?_⟩
    · have e13 : ac.tmps.getD 13 undef = Value.bool true := h.dep 13 (by kernel_rfl)
      obtain ⟨a15, k15, B15, e15, b15⟩ : ∃ xa xc xB, ac.tmps.getD 15 undef = .slice xa L.length xc ∧ BytesAt w xB xa xc L := h.dep 15 (by kernel_rfl)
      obtain ⟨a17, k17, B17, e17, b17⟩ : ∃ xa xc xB, ac.tmps.getD 17 undef = .slice xa L.length xc ∧ BytesAt w xB xa xc L := h.dep 17 (by kernel_rfl)
      refine ⟨35, #[Value.slice a15 L.length k15, Value.slice a17 L.length k17], wants_some (d := 13) rfl rfl (by rw [h.size]; show 13 < 20; decide) e13, Fg.run_call rfl rfl (by simp only [List.map_toArray, List.map_cons, List.map_nil, Act.eval, e15, e17]) (Fg.run_enter Tryd.func35 (by kernel_rfl) (by kernel_rfl)), ?_⟩
      exact (same_row L a15 a17 k15 k17 _ _ w b15 b17).mono fun _ _ ⟨he, hg⟩ => ⟨_, he, hg, rfl⟩
    refine ⟨Fg.vT rfl (by decide) fun ac w h => ?_, ?_⟩
    · have e13 : ac.tmps.getD 13 undef = Value.bool true := h.dep 13 (by kernel_rfl)
      have e18 : ac.tmps.getD 18 undef = Value.bool true := h.dep 18 (by kernel_rfl)
      refine ⟨Value.bool true, w, wants_none rfl, ?_, gb_refl _ _, rfl⟩
      clear h
      simp only [execOp, Act.eval, e13, e18]
      go_simp
    trivial
  · intro aq wq hB hsz hdf hrest hslots hpt
    obtain ⟨u5, e5⟩ : ∃ u, aq.tmps.getD 5 undef = u := ⟨_, rfl⟩
    obtain ⟨u6, e6⟩ : ∃ u, aq.tmps.getD 6 undef = u := ⟨_, rfl⟩
    obtain ⟨u7, e7⟩ : ∃ u, aq.tmps.getD 7 undef = u := ⟨_, rfl⟩
    obtain ⟨u8, e8⟩ : ∃ u, aq.tmps.getD 8 undef = u := ⟨_, rfl⟩
    obtain ⟨u9, e9⟩ : ∃ u, aq.tmps.getD 9 undef = u := ⟨_, rfl⟩
    obtain ⟨u10, e10⟩ : ∃ u, aq.tmps.getD 10 undef = u := ⟨_, rfl⟩
    obtain ⟨u11, e11⟩ : ∃ u, aq.tmps.getD 11 undef = u := ⟨_, rfl⟩
    obtain ⟨u12, e12⟩ : ∃ u, aq.tmps.getD 12 undef = u := ⟨_, rfl⟩
    obtain ⟨u13, e13⟩ : ∃ u, aq.tmps.getD 13 undef = u := ⟨_, rfl⟩
    obtain ⟨u14, e14⟩ : ∃ u, aq.tmps.getD 14 undef = u := ⟨_, rfl⟩
    obtain ⟨u15, e15⟩ : ∃ u, aq.tmps.getD 15 undef = u := ⟨_, rfl⟩
    obtain ⟨u16, e16⟩ : ∃ u, aq.tmps.getD 16 undef = u := ⟨_, rfl⟩
    obtain ⟨u17, e17⟩ : ∃ u, aq.tmps.getD 17 undef = u := ⟨_, rfl⟩
    obtain ⟨u18, e18⟩ : ∃ u, aq.tmps.getD 18 undef = u := ⟨_, rfl⟩
    have e19 : aq.tmps.getD 19 undef = Value.bool true := hslots 19 (by kernel_rfl)
    obtain rfl := Fg.frame_is (a := aq) (vs := [Value.agg (pL E).toArray, Value.agg (pL l).toArray, Value.pointer (some ⟨w0.heap.size, 0, none⟩), Value.pointer (some ⟨w0.heap.size + 1, 0, none⟩), Value.bool false, u5, u6, u7, u8, u9, u10, u11, u12, u13, u14, u15, u16, u17, u18, Value.bool true]) hsz ⟨hrest 0 (by kernel_rfl), hrest 1 (by kernel_rfl), hrest 2 (by kernel_rfl), hrest 3 (by kernel_rfl), hrest 4 (by kernel_rfl), e5, e6, e7, e8, e9, e10, e11, e12, e13, e14, e15, e16, e17, e18, e19, trivial⟩ hdf
    clear hsz hdf hrest hslots hpt e5 e6 e7 e8 e9 e10 e11 e12 e13 e14 e15 e16 e17 e18 e19
    refine Fg.wpl_value (v := .bool true) (w' := wq) rfl (Fg.run_assign rfl rfl) ?_
    refine wpList_nil ?_
    simp only [Act.put, List.setIfInBounds_toArray, List.set_cons_succ, List.set_cons_zero]
    have HF := Lib.hid (gb_trans H2.out.1 hB); clear hB
    go_wp2
    go_ret
    exact ⟨rfl, HF.out⟩
end Nr
end Go.Proofs.YtjgfhihngbhljaaDoor
