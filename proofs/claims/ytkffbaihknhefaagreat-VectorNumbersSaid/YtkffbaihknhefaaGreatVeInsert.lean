/- slices.Insert of one dot, into a row of one's own. -/
import Derived.Test.YtkffbaihknhefaaGreatVeRow
import Derived.Shelf.Spec.SlicesInsertGrow
import Derived.WalkKit
import Derived.Lib.Hide
import Derived.WalkSpells
import Derived.WalkLawsBesides
import Derived.Outline
namespace Go.Proofs.YtkffbaihknhefaaGreat
open Go.RowKit Ve
namespace Ve
abbrev OwnD (w : World) (base : Nat) (v : Value) (l : List D) : Prop := w.ownsRow base 25 2 v l.length (dotsC l)
def InsOut (base : Nat) (w : World) (v : Value) (l : List D) (e : Ending) (w' : World) : Prop := ∃ v', e = .returned v' ∧ OwnD w' base v' l ∧ w.grownBy w' v.ownBlock
theorem nx_end (l : List D) (d : D) : nx l l.length d = l ++ [d] := by simp [nx]
set_option maxHeartbeats 400000 in
theorem insert_end (base vb : Nat) (v : Value) (l : List D) (x y : Int) (w : World) (hn : l.length ≤ 8) (hown : OwnD w base v l) (hbase : base ≤ w.heap.size) (hv : Blk w vb 25 [iV x, iV y]) :
    Calls Tryz.prog 32 #[v, .int .i64 (l.length : Nat), .slice (some ⟨vb, 0, none⟩) 1 1] w (InsOut base w v (l ++ [(x, y)])) := by
  obtain ⟨i, hi, hz, hs, hb⟩ := info_dot
  obtain ⟨v', w', hr, ho, hg, _⟩ := run_append_own (P := Tryz.prog) w base 39 39 25 i (.agg #[iV 0, iV 0]) 2 16 Tryz.underlying39 hi hz hs hb rfl (by decide) v l.length (dotsC l) hown ⟨vb, 0, none⟩ 1 1 [iV x, iV y] rfl
    (fun j u hu => by rw [Addr.add_lit, Nat.zero_add]; exact hv.cell hu) (fun u hu => by simp at hu; rcases hu with rfl | rfl <;> rfl) (by unfold maxLen; omega) (by omega) hbase
  obtain ⟨a, c, rfl, _, hnc, _⟩ := own_dots hown
  have hr2 := append_args w 39 26 39 _ Tryz.underlying39 Tryz.underlying26 a l.length c (.slice (some ⟨vb, 0, none⟩) 1 1)
  rw [hr] at hr2
  have HO : Hid (InsOut base w (.slice a l.length c) (l ++ [(x, y)]) (.returned v') w') := ⟨v', rfl, by unfold OwnD; rw [dotsC_app, List.length_append]; exact ho, hg⟩
  have HC := Lib.hid hnc
  clear hr ho hg hown hv hi hz hs hb hnc
  generalize InsOut base w (.slice a l.length c) (l ++ [(x, y)]) = Q at HO ⊢
  generalize l.length = n at hr2 HC hn ⊢
  have hnc := HC.out
  go_enter Tryz.func32, Tryz.ntmps32
  go_wp2_with (at_builtin; refine Lib.wpList_append_run _ rfl _ _ _ _ rfl _ _ rfl rfl _ _ hr2 ?_)
  exact HO.out
theorem shape_blk {w : World} {B : Nat} {T : TypeId} {L : List Value} (h : Blk w B T L) : w.shape? B = some (T, L.length) := by
  unfold Blk at h; simp [World.shape?, h]
set_option maxHeartbeats 1000000 in
theorem insert_shift (base g vb k c : Nat) (l : List D) (x y : Int) (w : World) (hn : l.length ≤ 8) (hk : k < l.length) (hroom : l.length + 1 ≤ c) (hown : OwnD w base (.slice (some ⟨g, 0, none⟩) l.length c) l) (hv : Blk w vb 25 [iV x, iV y]) (hne : vb ≠ g) :
    Calls Tryz.prog 32 #[.slice (some ⟨g, 0, none⟩) l.length c, .int .i64 k, .slice (some ⟨vb, 0, none⟩) 1 1] w (InsOut base w (.slice (some ⟨g, 0, none⟩) l.length c) (nx l k (x, y))) := by
  obtain ⟨g', c', cur, e1, hb, hg, hnc, hcm, hcs, htake⟩ := hown.2.resolve_left (fun h => by cases h.1)
  simp only [Value.slice.injEq, Option.some.injEq, Addr.mk.injEq, true_and, and_true] at e1
  obtain ⟨rfl, rfl⟩ := e1
  obtain ⟨L, rfl⟩ : ∃ L : List Value, cur = L.toArray := ⟨cur.toList, by simp⟩
  have hB : Blk w g 25 L := hg
  simp only [List.size_toArray] at hcs htake
  obtain ⟨n, hln⟩ : ∃ n, n = l.length := ⟨_, rfl⟩
  rw [← hln] at hn hk hroom hnc htake ⊢
  unfold maxLen at hcm
  -- the two copies
  have hd1 : (dotsC (l.drop k)).length = (n - k) * 2 := by rw [dotsC_len, List.length_drop, hln]
  have hLk : ∀ j u, (dotsC (l.drop k))[j]? = some u → w.cell? ⟨g, k * 2 + j, none⟩ = some u := fun j u hu => by
    refine hB.cell ?_
    have hj : j < (n - k) * 2 := by rw [← hd1]; exact (List.getElem?_eq_some_iff.1 hu).1
    rw [← dotsC_drop, ← htake, List.getElem?_drop, List.getElem?_take, if_pos (by omega)] at hu
    exact hu
  have hc1 : ∀ ty dc sc, (Builtin.copy_ #[39, 39] ty #[.slice (some ⟨g, (k + 1) * 2, none⟩) (n - k) dc, .slice (some ⟨g, k * 2, none⟩) (n + 1 - k) sc]).run Tryz.prog w.drew = .ok (goInt (n - k : Nat)) (w.drew.setCells g ((k + 1) * 2) (dotsC (l.drop k))) := fun ty dc sc =>
    run_copy2 w.drew _ _ ty Tryz.underlying39 g _ _ dc ⟨g, k * 2, none⟩ _ sc (n - k) _ (by simp only [Nat.min_def]; split <;> omega) hd1
      (fun j u hu => by rw [Addr.add_lit]; exact hLk j u hu) (fun j hj => by rw [hB.drew.cell (List.getElem?_eq_getElem (by omega))]; rfl) (fun j hj => hB.drew.free _) (dotsC_cell _)
  obtain ⟨W1, hW1⟩ : ∃ W1, W1 = w.drew.setCells g ((k + 1) * 2) (dotsC (l.drop k)) := ⟨_, rfl⟩
  rw [← hW1] at hc1
  have hB1 : Blk W1 g 25 (over L ((k + 1) * 2) (dotsC (l.drop k))) := by rw [hW1]; exact hB.drew.setCells _
  have hv1 : Blk W1 vb 25 [iV x, iV y] := by rw [hW1]; exact hv.drew.setCells_other _ (fun e => hne e.symm)
  have hg1 : w.grownBy W1 (some g) := by rw [hW1]; exact gb_setCells (gb_drew (gb_refl _ _)) _
  have hc2 : ∀ (W : World), (∀ x, W.cell? x = W1.cell? x) → (∀ x, W.frozen? x = W1.frozen? x) → ∀ ty dc, (Builtin.copy_ #[39, 26] ty #[.slice (some ⟨g, k * 2, none⟩) (n + 1 - k) dc, .slice (some ⟨vb, 0, none⟩) 1 1]).run Tryz.prog W = .ok (goInt (1 : Nat)) (W.setCells g (k * 2) [iV x, iV y]) := fun W hWc hWf ty dc =>
    run_copy2 W _ _ ty Tryz.underlying39 g _ _ dc ⟨vb, 0, none⟩ _ 1 1 _ (by simp only [Nat.min_def]; split <;> omega) rfl
      (fun j u hu => by rw [Addr.add_lit, Nat.zero_add, hWc]; exact hv1.cell hu) (fun j hj => by rw [hWc, hB1.cell (List.getElem?_eq_getElem (by rw [over_length]; simp at hj; omega))]; rfl) (fun j hj => by rw [hWf]; exact hB1.free _) (fun u hu => by simp at hu; rcases hu with rfl | rfl <;> rfl)
  have hov : ∀ lb cb, (callFunc 60 #[.slice (some ⟨vb, 0, none⟩) 1 1, .slice (some ⟨g, (k + 1) * 2, none⟩) lb cb]).run Tryz.prog w = .ok (.value (.bool false)) w := fun lb cb => by
    rw [run_callFunc_extern Tryz.func60 (by kernel_rfl) (by kernel_rfl) (by kernel_rfl) (e := Extern.SlicesOverlaps.overlaps #[26, 26] #[4]) (by kernel_rfl),
      Lib.run_overlaps_apart w 26 4 25 Tryz.underlying26 2 Tryz.sizeOf25 ⟨vb, 0, none⟩ ⟨g, (k + 1) * 2, none⟩ 1 1 lb cb hne 25 25 2 L.length (shape_blk hv) (shape_blk hB) (by omega) (hv.free _) (hv.free _)]
    rfl
  have HO : Hid (InsOut base w (.slice (some ⟨g, 0, none⟩) n c) (nx l k (x, y)) (.returned (.slice (some ⟨g, 0, none⟩) (n + 1) c)) (W1.setCells g (k * 2) [iV x, iV y])) := by
    refine ⟨_, rfl, ?_, gb_setCells hg1 _⟩
    have hB2 := hB1.setCells (cs := [iV x, iV y]) (k * 2)
    have hnl : (nx l k (x, y)).length = n + 1 := by simp [nx]; omega
    refine ⟨by rw [dotsC_len], Or.inr ⟨g, c, (over (over L ((k + 1) * 2) (dotsC (l.drop k))) (k * 2) [iV x, iV y]).toArray, by rw [hnl], hb, hB2, by omega, by unfold maxLen; omega, by simp [over_length, hcs], ?_⟩⟩
    rw [hnl]
    show List.take _ (over (over L ((k + 1) * 2) (dotsC (l.drop k))) (k * 2) [iV x, iV y]) = _
    have e1 : over L ((k + 1) * 2) (dotsC (l.drop k)) = L.take ((k + 1) * 2) ++ dotsC (l.drop k) ++ L.drop ((n + 1) * 2) := by
      rw [over_eq _ _ _ (by rw [hd1]; omega), hd1, show (k + 1) * 2 + (n - k) * 2 = (n + 1) * 2 by omega]
    have e2 : ((L.take ((k + 1) * 2) ++ dotsC (l.drop k) ++ L.drop ((n + 1) * 2)).take (k * 2)) = dotsC (l.take k) := by
      rw [List.append_assoc, List.take_append_of_le_length (by rw [List.length_take]; omega), List.take_take, Nat.min_eq_left (by omega), ← dotsC_take, ← htake, List.take_take, Nat.min_eq_left (by omega)]
    have e3 : ((L.take ((k + 1) * 2) ++ dotsC (l.drop k) ++ L.drop ((n + 1) * 2)).drop (k * 2 + 2)) = dotsC (l.drop k) ++ L.drop ((n + 1) * 2) := by
      rw [List.append_assoc, show k * 2 + 2 = (L.take ((k + 1) * 2)).length by rw [List.length_take]; omega, List.drop_left]
    have e4 : dotsC (nx l k (x, y)) = dotsC (l.take k) ++ [iV x, iV y] ++ dotsC (l.drop k) := by
      unfold nx; rw [show (x, y) :: l.drop k = [(x, y)] ++ l.drop k from rfl, dotsC_app, dotsC_app, dotsC_one, List.append_assoc]
    rw [e1, over_eq _ _ _ (by rw [← e1, over_length]; simp; omega)]
    show List.take _ (_ ++ [iV x, iV y] ++ List.drop (k * 2 + 2) _) = _
    rw [e2, e3, ← List.append_assoc, ← e4, show (n + 1) * 2 = (dotsC (nx l k (x, y))).length by rw [dotsC_len, hnl], List.take_left]
  generalize InsOut base w (.slice (some ⟨g, 0, none⟩) n c) (nx l k (x, y)) = Q at HO ⊢
  have hw1 : IntKind.i64.wrap ((k : Int) + 1) = (k : Int) + 1 := by rw [IntKind.wrap_i64]; omega
  have hb1 : (0 : Int) ≤ (k : Int) + 1 := by omega
  have htn : ((k : Int) + 1).toNat = k + 1 := by omega
  have hb2 : ¬ (c = k + 1) := by omega
  have hb3 : (k : Int) ≤ (n : Int) + 1 := by omega
  have hb4 : ¬ (c = k) := by omega
  have hkn : ¬ ((k : Int) = (n : Int)) := by omega
  have hin : k ≤ n := by omega
  have hin2 : (k : Int) ≤ (n : Int) := by omega
  have mixed : Tryz.prog.follows .mixedOrders = true := by kernel_rfl
  clear hB hg hv hd1 hLk hB1 hv1 hg1 htake hcs
  have HL := Lib.hid hln; clear hln
  have HW := Lib.hid hW1; clear hW1
  go_enter Tryz.func32, Tryz.ntmps32
  go_wp2_with (simp only [hov])
  go_region_law_o (refine step_copy_runI rfl _ _ 39 39 rfl _ _ (by simp [Act.eval, Act.put]) (by simp [Act.eval, Act.put]) (hc1 _ _ _) ?_)
  go_wp2_with (at_builtin; refine wpList_copy_runI _ rfl _ _ 39 26 rfl _ _ rfl rfl (hc2 _ (fun _ => rfl) (fun _ => rfl) _ _) ?_)
  exact HO.out
set_option maxHeartbeats 1000000 in
set_option maxRecDepth 100000 in
theorem insert_grow (base g vb k c : Nat) (l : List D) (x y : Int) (w : World) (hn : l.length ≤ 8) (hk : k < l.length) (hroom : c < l.length + 1) (hown : OwnD w base (.slice (some ⟨g, 0, none⟩) l.length c) l) (hbase : base ≤ w.heap.size) (hv : Blk w vb 25 [iV x, iV y]) :
    Calls Tryz.prog 32 #[.slice (some ⟨g, 0, none⟩) l.length c, .int .i64 k, .slice (some ⟨vb, 0, none⟩) 1 1] w (InsOut base w (.slice (some ⟨g, 0, none⟩) l.length c) (nx l k (x, y))) := by
  obtain ⟨g', c', cur, e1, hb, hg, hnc, hcm, hcs, htake⟩ := hown.2.resolve_left (fun h => by cases h.1)
  simp only [Value.slice.injEq, Option.some.injEq, Addr.mk.injEq, true_and, and_true] at e1
  obtain ⟨rfl, rfl⟩ := e1
  obtain ⟨L, rfl⟩ : ∃ L : List Value, cur = L.toArray := ⟨cur.toList, by simp⟩
  have hB : Blk w g 25 L := hg
  simp only [List.size_toArray] at hcs htake
  obtain ⟨n, hln⟩ : ∃ n, n = l.length := ⟨_, rfl⟩
  rw [← hln] at hn hk hroom hnc htake ⊢
  unfold maxLen at hcm
  obtain rfl : c = n := by omega
  obtain ⟨i, hi, hz, hs, hby⟩ := info_dot
  have hgw := hB.lt
  have hvw := hv.lt
  have hd1 : (dotsC (l.drop k)).length = (c - k) * 2 := by rw [dotsC_len, List.length_drop, hln]
  have hlt : (l.take k).length = k := by rw [List.length_take]; omega
  have htk : L.take (k * 2) = dotsC (l.take k) := by rw [← dotsC_take, ← htake, List.take_take, Nat.min_eq_left (by omega)]
  have hold : (Builtin.firstCells i.size k (.slice (some ⟨g, 0, none⟩) k c)).run Tryz.prog w.drew = .ok (dotsC (l.take k)).toArray w.drew := by
    rw [hs]
    exact run_firstCells_some w.drew 2 k ⟨g, 0, none⟩ k c _ (by rw [dotsC_len, hlt]) (fun j u hj => by
      rw [Addr.add_lit, Nat.zero_add]
      refine hB.drew.cell ?_
      rw [← htk, List.getElem?_take] at hj
      split at hj
      · exact hj
      · cases hj)
  obtain ⟨G, hG⟩ : ∃ G, G = grownCap w (c + 1) c 25 := ⟨_, rfl⟩
  obtain ⟨R, hR⟩ : ∃ R : List Value, R = ((dotsC (l.take k)).toArray ++ Builtin.zeroCells (Value.agg #[iV 0, iV 0]).cells (c + 1 - k) ++ Builtin.zeroCells (Value.agg #[iV 0, iV 0]).cells (G - (c + 1))).toList := ⟨_, rfl⟩
  have hGn : c + 1 ≤ G := by rw [hG]; exact grownCap_ge w _ _ _
  have hG63 : G ≤ 9223372036854775807 := by
    have := grownCap_le_maxLen w (c + 1) c 25 (by unfold maxLen; omega)
    rw [← hG] at this
    unfold maxLen at this
    omega
  have hRl : R.length = G * 2 := by
    rw [hR]
    simp [Builtin.zeroCells, Value.cells, dotsC_len]
    omega
  have hRt : R.take (k * 2) = dotsC (l.take k) := by
    rw [hR, Array.toList_append, Array.toList_append, List.append_assoc]
    show List.take _ (dotsC (l.take k) ++ _) = _
    rw [show k * 2 = (dotsC (l.take k)).length by rw [dotsC_len, hlt], List.take_left]
  have hrz : ∀ ty, (Builtin.append_ #[39, 3] ty #[.slice (some ⟨g, 0, none⟩) k c, .int .i64 ((c : Int) + 1 - (k : Int))]).run Tryz.prog w =
      .ok (.slice (some ⟨w.heap.size, 0, none⟩) (c + 1) G) (w.drew.alloc (.cells R.toArray 25)) := fun ty => by
    have h := Lib.run_append_grow_zeros (P := Tryz.prog) w 39 3 ty 25 i _ .i64 .i64 Tryz.underlying39 Tryz.underlying3 hi hz (some ⟨g, 0, none⟩) k c _ hold (c + 1 - k) (by omega) (by omega) (by omega) (by omega) (by rw [hby]; omega) (by have := nextslicecap_le (need := k + (c + 1 - k)) (old := c) (by omega); rw [hby]; omega)
    rw [show k + (c + 1 - k) = c + 1 by omega, ← hG] at h
    rw [show (c : Int) + 1 - (k : Int) = ((c + 1 - k : Nat) : Int) by omega, hR, Array.toArray_toList]
    exact h
  have hGrow : Hid (w.grownBy (w.drew.alloc (.cells R.toArray 25)) none) := gb_alloc (gb_drew (gb_refl _ _)) _
  have hB1' : Blk (w.drew.alloc (.cells R.toArray 25)) w.heap.size 25 R := Blk.new w.drew R _
  obtain ⟨W1, hW1⟩ : ∃ W1, W1 = w.drew.alloc (.cells R.toArray 25) := ⟨_, rfl⟩
  rw [← hW1] at hrz hGrow hB1'
  generalize hN : w.heap.size = N at *
  have hv1 : Blk W1 vb 25 [iV x, iV y] := hv.grown hGrow.out (by simp)
  have hg1 : Blk W1 g 25 L := hB.grown hGrow.out (by simp)
  have hc1 : ∀ (W : World), (∀ x, W.cell? x = W1.cell? x) → (∀ x, W.frozen? x = W1.frozen? x) → ∀ ty dc, (Builtin.copy_ #[39, 26] ty #[.slice (some ⟨N, k * 2, none⟩) (c + 1 - k) dc, .slice (some ⟨vb, 0, none⟩) 1 1]).run Tryz.prog W = .ok (goInt (1 : Nat)) (W.setCells N (k * 2) [iV x, iV y]) := fun W hWc hWf ty dc =>
    run_copy2 W _ _ ty Tryz.underlying39 N _ _ dc ⟨vb, 0, none⟩ _ 1 1 _ (by simp only [Nat.min_def]; split <;> omega) rfl
      (fun j u hu => by rw [Addr.add_lit, Nat.zero_add, hWc]; exact hv1.cell hu) (fun j hj => by rw [hWc, hB1'.cell (List.getElem?_eq_getElem (by simp at hj; omega))]; rfl) (fun j hj => by rw [hWf]; exact hB1'.free _) (fun u hu => by simp at hu; rcases hu with rfl | rfl <;> rfl)
  have hB2 := hB1'.setCells (cs := [iV x, iV y]) (k * 2)
  have hg2 : Blk (W1.setCells N (k * 2) [iV x, iV y]) g 25 L := hg1.setCells_other _ (by omega)
  have hc2 : ∀ (W : World), (∀ z, W.cell? z = (W1.setCells N (k * 2) [iV x, iV y]).cell? z) → (∀ z, W.frozen? z = (W1.setCells N (k * 2) [iV x, iV y]).frozen? z) → ∀ ty dc sc, (Builtin.copy_ #[39, 39] ty #[.slice (some ⟨N, (k + 1) * 2, none⟩) (c - k) dc, .slice (some ⟨g, k * 2, none⟩) (c - k) sc]).run Tryz.prog W = .ok (goInt (c - k : Nat)) (W.setCells N ((k + 1) * 2) (dotsC (l.drop k))) := fun W hWc hWf ty dc sc =>
    run_copy2 W _ _ ty Tryz.underlying39 N _ _ dc ⟨g, k * 2, none⟩ _ sc (c - k) _ (by simp only [Nat.min_def]; split <;> omega) hd1
      (fun j u hu => by
        rw [Addr.add_lit, hWc]
        refine hg2.cell ?_
        have hj : j < (c - k) * 2 := by rw [← hd1]; exact (List.getElem?_eq_some_iff.1 hu).1
        rw [← dotsC_drop, ← htake, List.getElem?_drop, List.getElem?_take, if_pos (by omega)] at hu
        exact hu) (fun j hj => by rw [hWc, hB2.cell (List.getElem?_eq_getElem (by rw [over_length]; omega))]; rfl) (fun j hj => by rw [hWf]; exact hB2.free _) (dotsC_cell _)
  have HO : Hid (InsOut base w (.slice (some ⟨g, 0, none⟩) c c) (nx l k (x, y)) (.returned (.slice (some ⟨N, 0, none⟩) (c + 1) G)) ((W1.setCells N (k * 2) [iV x, iV y]).drew.setCells N ((k + 1) * 2) (dotsC (l.drop k)))) := by
    refine ⟨_, rfl, ?_, gb_setCells_new (gb_drew (gb_setCells_new (gb_row hGrow.out _) (Nat.le_of_eq hN) _)) (Nat.le_of_eq hN) _⟩
    have hB3 := hB2.drew.setCells (cs := dotsC (l.drop k)) ((k + 1) * 2)
    have hnl : (nx l k (x, y)).length = c + 1 := by simp [nx]; omega
    refine ⟨by rw [dotsC_len], Or.inr ⟨N, G, (over (over R (k * 2) [iV x, iV y]) ((k + 1) * 2) (dotsC (l.drop k))).toArray, by rw [hnl], hbase, hB3, by omega, by unfold maxLen; omega, by simp [over_length, hRl], ?_⟩⟩
    rw [hnl]
    show List.take _ (over (over R (k * 2) [iV x, iV y]) ((k + 1) * 2) (dotsC (l.drop k))) = _
    have e1 : over R (k * 2) [iV x, iV y] = dotsC (l.take k) ++ [iV x, iV y] ++ R.drop (k * 2 + 2) := by
      rw [over_eq _ _ _ (by simp; omega), hRt]; rfl
    have e0 : (dotsC (l.take k) ++ [iV x, iV y]).length = (k + 1) * 2 := by rw [List.length_append, dotsC_len, hlt]; simp; omega
    have e4 : dotsC (nx l k (x, y)) = dotsC (l.take k) ++ [iV x, iV y] ++ dotsC (l.drop k) := by
      unfold nx; rw [show (x, y) :: l.drop k = [(x, y)] ++ l.drop k from rfl, dotsC_app, dotsC_app, dotsC_one, List.append_assoc]
    rw [over_eq _ _ _ (by rw [over_length, hd1]; omega), e1, ← e0, List.take_left, ← e4, show (c + 1) * 2 = (dotsC (nx l k (x, y))).length by rw [dotsC_len, hnl], List.take_left]
  generalize InsOut base w (.slice (some ⟨g, 0, none⟩) c c) (nx l k (x, y)) = Q at HO ⊢
  have hw1 : IntKind.i64.wrap ((k : Int) + 1) = (k : Int) + 1 := by rw [IntKind.wrap_i64]; omega
  have hb1 : (0 : Int) ≤ (k : Int) + 1 := by omega
  have htn : ((k : Int) + 1).toNat = k + 1 := by omega
  have hb2 : ¬ (G = k + 1) := by omega
  have hb3 : (k : Int) ≤ (c : Int) + 1 := by omega
  have hb4 : ¬ (G = k) := by omega
  have hb5 : ¬ (c = k) := by omega
  have hkn : ¬ ((k : Int) = (c : Int)) := by omega
  have hin : k ≤ c := by omega
  have hin2 : (k : Int) ≤ (c : Int) := by omega
  have mixed : Tryz.prog.follows .mixedOrders = true := by kernel_rfl
  have hF3 : ∀ z, ((W1.setCells N (k * 2) [iV x, iV y]).drew).cell? z = (W1.setCells N (k * 2) [iV x, iV y]).cell? z := fun z => rfl
  have hF4 : ∀ z, ((W1.setCells N (k * 2) [iV x, iV y]).drew).frozen? z = (W1.setCells N (k * 2) [iV x, iV y]).frozen? z := fun z => rfl
  clear hB hg hv hd1 hold hv1 hg1 htake hcs hGrow hB1' hB2 hg2 hRl hRt htk hlt hown hi hz hs hby hln hR hW1 hG hN
  go_enter Tryz.func32, Tryz.ntmps32
  go_wp2_with (first
    | (at_builtin; refine Lib.wpList_append_run _ rfl _ _ _ _ rfl _ _ rfl rfl _ _ (hrz _) ?_)
    | (at_builtin; refine wpList_copy_runI _ rfl _ _ 39 26 rfl _ _ rfl rfl (hc1 _ (fun _ => rfl) (fun _ => rfl) _ _) ?_))
  go_region_law_o (refine step_copy_runI rfl _ _ 39 39 rfl (.slice (some ⟨N, (k + 1) * 2, none⟩) (c - k) (G - (k + 1))) (.slice (some ⟨g, k * 2, none⟩) (c - k) (c - k)) (by simp [Act.eval, Act.put]) (by simp [Act.eval, Act.put]) (hc2 _ hF3 hF4 3 (G - (k + 1)) (c - k)) ?_)
  go_wp2
  exact HO.out
theorem nx_len (l : List D) (k : Nat) (d : D) (hk : k ≤ l.length) : (nx l k d).length = l.length + 1 := by simp [nx]; omega
theorem insert_any (base vb k : Nat) (v : Value) (l : List D) (x y : Int) (w : World) (hn : l.length ≤ 8) (hk : k ≤ l.length) (hown : OwnD w base v l) (hbase : base ≤ w.heap.size) (hv : Blk w vb 25 [iV x, iV y]) (hne : v.ownBlock ≠ some vb) :
    Calls Tryz.prog 32 #[v, .int .i64 k, .slice (some ⟨vb, 0, none⟩) 1 1] w (InsOut base w v (nx l k (x, y))) := by
  by_cases hkn : k = l.length
  · subst hkn
    rw [nx_end]
    exact insert_end base vb v l x y w hn hown hbase hv
  · rcases hown.2 with ⟨rfl, h0⟩ | ⟨g, c, cur, rfl, _⟩
    · omega
    · by_cases hroom : l.length + 1 ≤ c
      · exact insert_shift base g vb k c l x y w hn (by omega) hroom hown hv (fun e => hne (by rw [e]; rfl))
      · exact insert_grow base g vb k c l x y w hn (by omega) (by omega) hown hbase hv
end Ve
end Go.Proofs.YtkffbaihknhefaaGreat
