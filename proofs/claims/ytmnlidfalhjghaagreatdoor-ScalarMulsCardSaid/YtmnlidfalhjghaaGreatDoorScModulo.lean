/- scalar: modulo: a number's words are brought down one by one, from the highest on (slices.Backward). -/
import Derived.Test.YtmnlidfalhjghaaGreatDoorScDown
import Derived.Test.YtmnlidfalhjghaaGreatDoorScFill
import Derived.RangeFuncNested
import Derived.RangeFuncBound
import Derived.RangeFuncCalls
import Derived.RangeFuncLeaves
import Derived.RangeFuncBox
import Derived.Shelf.Abstract
import Derived.Shelf.RegionOpen
import Derived.OwnWalkIn
import Derived.TacticsInMore
import Derived.LoopNIn
import Derived.LoopIn
namespace Go.Proofs.YtmnlidfalhjghaaGreatDoor
open Go.RowKit Ow Go.Shelf
attribute [local go_sem] Oper.semAt_some

/-- a place and a word -/
abbrev PW := { x : Nat × Nat // x.2 < 18446744073709551616 }
def pwE (x : PW) : Array Value := #[.int .i64 (x.1.1 : Int), .int .u64 (x.1.2 : Int)]
/-- the k highest of eight words -/
def downTo (N k : Nat) : List PW := (List.range k).map fun p => ⟨(7 - p, Sc.wrd N (7 - p)), Sc.wrd_lt _ _⟩
theorem downTo_succ (N k : Nat) : downTo N (k + 1) = downTo N k ++ [⟨(7 - k, Sc.wrd N (7 - k)), Sc.wrd_lt _ _⟩] := by simp [downTo, List.range_succ]
theorem downTo_length (N k : Nat) : (downTo N k).length = k := by simp [downTo]
def KeepsR (R Bs : Nat) (W W' : World) : Prop := (∀ j, j < 8 → W'.cell? ⟨R, j, none⟩ = W.cell? ⟨R, j, none⟩) ∧ W'.cell? ⟨Bs, 0, none⟩ = W.cell? ⟨Bs, 0, none⟩
theorem keepsR_t {R Bs : Nat} {A B C : World} (h : KeepsR R Bs A B) (k : KeepsR R Bs B C) : KeepsR R Bs A C := ⟨fun j hj => (k.1 j hj).trans (h.1 j hj), k.2.trans h.2⟩
theorem keepsR_b {R Bs n : Nat} (hR : R < n) (hB : Bs < n) (W : World) (l : Nat) (o o' : Obj) (hl : n ≤ l) (h : W.heap[l]? = some o) : KeepsR R Bs W (W.putObj l o') := by
  have hlt : l < W.heap.size := (Array.getElem?_eq_some_iff.1 h).1
  exact ⟨fun j _ => gb_cell (grownBy_putObj' W l o') (p := ⟨R, j, none⟩) (show R < _ by omega) (some_ne' (by show R ≠ l; omega)), gb_cell (grownBy_putObj' W l o') (p := ⟨Bs, 0, none⟩) (show Bs < _ by omega) (some_ne' (by show Bs ≠ l; omega))⟩
set_option maxHeartbeats 1000000 in
theorem backward_in (F : Fence) (n : Nat) (hf : F.fn 39) (hro : F.round = none) (a : Option Addr) (len cap : Nat) (w : World) :
    CallsIn F n Tryz.prog 39 #[.slice a len cap] w fun e w' => e = .returned (.func (.func 69) #[] #[.pointer (some ⟨w.heap.size, 0, none⟩)]) ∧ w' = w.alloc (.cells #[.slice a len cap] 87) := by
  refine callsIn_of_wp Tryz.func39 rfl hf ?_ hro
  simp only [Tryz.ntmps39, List.size_toArray, List.length_cons, List.length_nil, Nat.reduceAdd, Nat.reduceSub, Array.replicate_succ, Array.replicate_zero, List.push_toArray, List.append_toArray, List.nil_append, List.cons_append]
  gi_wp2
  go_ret
  exact ⟨rfl, rfl⟩
set_option maxRecDepth 100000 in
set_option maxHeartbeats 2000000 in
theorem backward1_in (F : Fence) (n : Nat) (hf : F.fn 69) (hro : F.round = none) (hn : 1 ≤ n) (l Bs R N : Nat) (J Jx : List PW → World → Prop)
    (hY : ∀ pre x W, J pre W → pre.length < 8 → YieldAt F (n - 1) Tryz.prog l (pwE x) W fun e W' =>
      (e = .returned (.bool true) ∧ J (pre ++ [x]) W' ∧ KeepsR R Bs W W') ∨ (e = .returned (.bool false) ∧ Jx (pre ++ [x]) W'))
    (W : World) (hBs : W.cell? ⟨Bs, 0, none⟩ = some (.slice (some ⟨R, 0, none⟩) 8 8)) (hc : ∀ j, j < 8 → W.cell? ⟨R, j, none⟩ = some (.int .u64 (Sc.wrd N j : Int))) (h0 : J [] W) :
    CallsIn F n Tryz.prog 69 #[.func (.yield l) #[] #[], .pointer (some ⟨Bs, 0, none⟩)] W fun e W' => (∃ v, e = .returned v) ∧
      ((∃ ys, ys = downTo N 8 ∧ J ys W') ∨ (∃ pre, True ∧ Jx pre W')) := by
  refine callsIn_of_wp Tryz.func69 rfl hf ?_ hro
  simp only [Tryz.ntmps69, List.size_toArray, List.length_cons, List.length_nil, Nat.reduceAdd, Nat.reduceSub, Array.replicate_succ, Array.replicate_zero, List.push_toArray, List.append_toArray, List.nil_append, List.cons_append]
  gi_wp2
  gi_loopw [3] (fun i wr => ((∃ m : Nat, m < 8 ∧ i = .int .i64 m ∧ J (downTo N (7 - m)) wr) ∨ (i = .int .i64 (-1) ∧ J (downTo N 8) wr)) ∧ KeepsR R Bs W wr)
    (fun i _ => (intOf i + 1).toNat)
  case atStart => exact ⟨Or.inl ⟨7, by omega, rfl, h0⟩, ⟨fun _ _ => rfl, rfl⟩⟩
  case round =>
    obtain ⟨⟨m, hm, rfl, hJs⟩ | ⟨rfl, hJs⟩, hnx⟩ := hrel
    · have hb1 : wr.cell? ⟨Bs, 0, none⟩ = some (.slice (some ⟨R, 0, none⟩) 8 8) := hnx.2.trans hBs
      have hcx : wr.cell? ⟨R, m, none⟩ = some (.int .u64 (Sc.wrd N m : Int)) := (hnx.1 m hm).trans (hc m hm)
      obtain ⟨fn, tmps, assign, body, hy, hR⟩ := hY _ ⟨(m, Sc.wrd N m), Sc.wrd_lt _ _⟩ wr hJs (by rw [downTo_length]; omega)
      unfold pwE at hy
      dsimp only at hy
      gi_wp2
      refine hR.mono ?_
      rintro e W3 (⟨rfl, hJ3, hk3⟩ | ⟨rfl, hJx3⟩)
      · have hJ4 : J (downTo N (7 - m + 1)) W3 := by
          rw [downTo_succ]
          have e7 : 7 - (7 - m) = m := by omega
          simp only [e7]
          exact hJ3
        gi_wp2
        go_roundw
        case rel =>
          refine ⟨?_, keepsR_t hnx hk3⟩
          rcases Nat.eq_zero_or_pos m with h | h
          · subst h; exact Or.inr ⟨rfl, hJ4⟩
          · obtain ⟨d, rfl⟩ : ∃ d, m = d + 1 := ⟨m - 1, by omega⟩
            have e : 7 - (d + 1) + 1 = 7 - d := by omega
            rw [e] at hJ4
            exact Or.inl ⟨d, by omega, by go_num, hJ4⟩
        case measure => simp [intOf]
      · gi_wp2
        refine bodyPost_ret (results_none rfl _ _ _) rfl ?_
        exact ⟨⟨_, rfl⟩, .inr ⟨_, trivial, hJx3⟩⟩
    · gi_wp2
      go_end0
      exact ⟨⟨_, rfl⟩, .inl ⟨_, rfl, hJs⟩⟩
theorem backward_stops (F : Fence) (n : Nat) (hf : F.fn 69) (hro : F.round = none) (hn : 1 ≤ n) (Bs R N : Nat) (w : World) (hBs : Bs < w.heap.size) (hR : R < w.heap.size)
    (hb : w.cell? ⟨Bs, 0, none⟩ = some (.slice (some ⟨R, 0, none⟩) 8 8)) (hc : ∀ j, j < 8 → w.cell? ⟨R, j, none⟩ = some (.int .u64 (Sc.wrd N j : Int))) :
    SeqStopsK F n Tryz.prog 69 #[.pointer (some ⟨Bs, 0, none⟩)] pwE (KeepsR R Bs) (fun ys => ys = downTo N 8) (fun _ => True) 8 w := fun l J Jx W hW _ _ hY h0 =>
  backward1_in F n hf hro hn l Bs R N J Jx hY W ((hW.cell (p := ⟨Bs, 0, none⟩) hBs).trans hb) (fun j hj => (hW.cell (p := ⟨R, j, none⟩) hR).trans (hc j hj)) h0
/-- the rest behind some words -/
def foldG (g : Nat → Nat → Nat) (pre : List PW) : Nat := pre.foldl (fun r x => g r x.1.2) 0
theorem foldG_snoc (g : Nat → Nat → Nat) (pre : List PW) (x : PW) : foldG g (pre ++ [x]) = g (foldG g pre) x.1.2 := by
  unfold foldG
  rw [List.foldl_append]
  rfl
abbrev fold (pre : List PW) : Nat := foldG Sc.restN pre
theorem fold_snoc (pre : List PW) (x : PW) : fold (pre ++ [x]) = Sc.restN (fold pre) x.1.2 := foldG_snoc Sc.restN pre x
theorem fold_down (N k : Nat) (hN : N / 2 ^ (64 * 8) = 0) (hk : k ≤ 8) : fold (downTo N k) = N / 2 ^ (64 * (8 - k)) % Sc.L := by
  induction k with
  | zero => rw [show 8 - 0 = 8 from rfl, hN, Nat.zero_mod]; rfl
  | succ k ih =>
    rw [downTo_succ, fold_snoc, ih (by omega)]
    have h := Sc.rest_step N (7 - k)
    rw [show 7 - k + 1 = 8 - k by omega] at h
    rw [show 8 - (k + 1) = 7 - k by omega]
    exact h
theorem blk_from {w w' : World} {B : Nat} {T : TypeId} {L : List Value} {row : Option Nat} {n : Nat} (h : Blk w B T L) (hg : w.grownBy w' row) (hr : ∀ r, row = some r → n ≤ r ∧ ∃ o : Obj, w.heap[r]? = some o ∧ o.isCells = false) : Blk w' B T L := by
  refine h.grown hg ?_
  intro e
  obtain ⟨_, o, ho, hc⟩ := hr B e.symm
  unfold Blk at h
  rw [h] at ho
  cases ho
  simp [Obj.isCells] at hc
theorem gb_from {a b c : World} {row row' : Option Nat} (h : a.grownBy b row) (k : b.grownBy c row') (hr : ∀ r, row' = some r → a.heap.size ≤ r) : a.grownBy c row := by
  cases row' with
  | none => exact gb_trans h (gb_row k _)
  | some r => exact gb_then h k (hr r rfl)
/-- what holds between two words -/
structure ModI (w : World) (R N : Nat) (T : TypeId) (pre : List PW) (W : World) : Prop where
  rest : Blk W R T (recL (wds N 8) (fold pre))
  tab : OTab W
  box : Blk W w.heap.size 88 [.pointer (some ⟨R, 0, none⟩)]
  res : Blk W (w.heap.size + 1) 44 [.int .u64 0, .int .u64 0, .int .u64 0, .int .u64 0]
  grown : w.grownBy W (some R)
  size : w.heap.size + 3 ≤ W.heap.size
theorem modI_own (w : World) (R N : Nat) (T : TypeId) (n : Nat) (hn : w.heap.size ≤ n) (ht : 0 < w.heap.size) : OwnFrom n (ModI w R N T) := fun s A B row h hg hr =>
  ⟨blk_from h.rest hg hr, h.tab.kept hg (fun r e => by have := (hr r e).1; omega), blk_from h.box hg hr, blk_from h.res hg hr, gb_from h.grown hg (fun r e => by have := (hr r e).1; omega), Nat.le_trans h.size hg.size⟩
theorem recL_put (X : List Value) (hX : X.length = 8) (a b c d : Value) : ((((X ++ [a, b, c, d]).set 8 (.int .u64 0)).set 9 (.int .u64 0)).set 10 (.int .u64 0)).set 11 (.int .u64 0) = recL X 0 := by
  unfold recL
  rw [wV0, wV0, wV0, wV0, List.set_append_right _ _ (by omega), List.set_append_right _ _ (by omega), List.set_append_right _ _ (by omega), List.set_append_right _ _ (by omega), hX]
  rfl
set_option maxRecDepth 100000 in
set_option maxHeartbeats 2000000 in
theorem modulo_any (R N : Nat) (T : TypeId) (a b c d : Value) (w : World) (hN : N / 2 ^ (64 * 8) = 0) (hT : OTab w) (hR : 0 < R) (hb : Blk w R T (wds N 8 ++ [a, b, c, d])) :
    Calls Tryz.prog 25 #[.pointer (some ⟨R, 0, none⟩)] w fun e w' => e = .returned (narrowV (N % Sc.L)) ∧ w.grownBy w' (some R) ∧ Blk w' R T (recL (wds N 8) (N % Sc.L)) := by
  have hRl := hb.lt
  have k0 := hb.cell (i := 8) rfl
  have k1 := hb.cell (i := 9) rfl
  have k2 := hb.cell (i := 10) rfl
  have k3 := hb.cell (i := 11) rfl
  have f0 := hb.free 8
  have f1 := hb.free 9
  have f2 := hb.free 10
  have f3 := hb.free 11
  have HB := Lib.hid hb; clear hb
  have HT := Lib.hid hT; clear hT
  have HN := Lib.hid hN; clear hN
  refine (callsIn_wide (n := 9)).1 ?_
  refine callsIn_of_wp_marks Tryz.func25 rfl trivial ?_ rfl
  simp only [Tryz.ntmps25, List.size_toArray, List.length_cons, List.length_nil, Nat.reduceAdd, Nat.reduceSub, Array.replicate_succ, Array.replicate_zero, List.push_toArray, List.append_toArray, List.nil_append, List.cons_append]
  gi_wp2_with fail
  refine ⟨trivial, ?_⟩
  have hb1 := ((((HB.out.set 8 (.int .u64 0)).set 9 (.int .u64 0)).set 10 (.int .u64 0)).set 11 (.int .u64 0))
  have hg1 := gb_set (gb_set (gb_set (gb_set (gb_refl w (some R)) 8 (.int .u64 0)) 9 (.int .u64 0)) 10 (.int .u64 0)) 11 (.int .u64 0)
  rw [recL_put (wds N 8) rfl a b c d] at hb1
  have hs1 : ((((w.setCell ⟨R, 8, none⟩ (.int .u64 0)).setCell ⟨R, 9, none⟩ (.int .u64 0)).setCell ⟨R, 10, none⟩ (.int .u64 0)).setCell ⟨R, 11, none⟩ (.int .u64 0)).heap.size = w.heap.size := by simp [World.setCell]
  clear k0 k1 k2 k3 f0 f1 f2 f3 HB
  revert hb1 hg1 hs1
  generalize (((w.setCell ⟨R, 8, none⟩ (.int .u64 0)).setCell ⟨R, 9, none⟩ (.int .u64 0)).setCell ⟨R, 10, none⟩ (.int .u64 0)).setCell ⟨R, 11, none⟩ (.int .u64 0) = w1
  intro hb1 hg1 hs1
  have hX := blk_at w1 (B := w.heap.size) [.pointer (some ⟨R, 0, none⟩)] 88 hs1
  have hY := blk_at (w1.alloc (.cells #[.pointer (some ⟨R, 0, none⟩)] 88)) (B := w.heap.size + 1) [.int .u64 0, .int .u64 0, .int .u64 0, .int .u64 0] 44 (by simp [hs1])
  have hX2 := hX.alloc (.cells #[.int .u64 0, .int .u64 0, .int .u64 0, .int .u64 0] 44)
  have hb2 := (hb1.alloc (.cells #[.pointer (some ⟨R, 0, none⟩)] 88)).alloc (.cells #[.int .u64 0, .int .u64 0, .int .u64 0, .int .u64 0] 44)
  have hg2 := gb_alloc (gb_alloc hg1 (.cells #[.pointer (some ⟨R, 0, none⟩)] 88)) (.cells #[.int .u64 0, .int .u64 0, .int .u64 0, .int .u64 0] 44)
  have hs2 : ((w1.alloc (.cells #[.pointer (some ⟨R, 0, none⟩)] 88)).alloc (.cells #[.int .u64 0, .int .u64 0, .int .u64 0, .int .u64 0] 44)).heap.size = w.heap.size + 2 := by simp [hs1]
  clear hX hb1 hg1 hs1
  revert hX2 hY hb2 hg2 hs2
  generalize (w1.alloc (.cells #[.pointer (some ⟨R, 0, none⟩)] 88)).alloc (.cells #[.int .u64 0, .int .u64 0, .int .u64 0, .int .u64 0] 44) = w2
  intro hY hX2 hb2 hg2 hs2
  refine (backward_in Fence.wide 8 trivial rfl _ _ _ _).mono ?_
  rintro e w3 ⟨rfl, hw3⟩
  have hI : ModI w R N T [] w3 := by
    subst hw3
    exact ⟨hb2.alloc _, HT.out.kept (gb_alloc hg2 _) (fun r e => by cases e; exact hR), hX2.alloc _, hY.alloc _, gb_alloc hg2 _, by simp [hs2]⟩
  have hBs : Blk w3 (w.heap.size + 2) 87 [.slice (some ⟨R, 0, none⟩) 8 8] := by
    subst hw3
    exact blk_at w2 [.slice (some ⟨R, 0, none⟩) 8 8] _ hs2
  have hs3 : w3.heap.size = w.heap.size + 3 := by subst hw3; simp [hs2]
  rw [hs2]
  clear hw3 hX2 hY hb2 hg2 hs2
  have HI := Lib.hid hI; clear hI
  gi_wp2_with fail
  have hRN : ∀ j, j < 8 → w3.cell? ⟨R, j, none⟩ = some (.int .u64 (Sc.wrd N j : Int)) := fun j hj => HI.out.rest.cell (wds_get N 8 j hj _)
  have hO : 0 < w.heap.size := by omega
  refine wpIn_rangeFunc_ownG (F := Fence.wide) (n := 9) rfl (by decide) (gf := 69) (lb := #[.pointer (some ⟨w.heap.size + 2, 0, none⟩)]) rfl trivial (enters_of Tryz.func69 (by kernel_rfl) rfl)
    (w0 := w3) (backward_stops Fence.wide 8 trivial rfl (by decide) (w.heap.size + 2) R N w3 (by omega) (by omega) (hBs.cell (i := 0) rfl) hRN)
    (fun h k => keepsR_t h k) (fun W l o o' hl h _ _ => keepsR_b (n := w3.heap.size) (by omega) (by omega) W l o o' hl h) (Below.refl _ _) (fun _ => rfl)
    (ModI w R N T) (fun _ _ _ => False) (modI_own w R N T _ (by omega) hO) (fun _ _ _ _ _ h _ _ => h) HI.out
    (fun x => { tmps := #[.pointer (some ⟨R, 0, none⟩), .pointer (some ⟨w.heap.size, 0, none⟩), .pointer (some ⟨w.heap.size + 1, 0, none⟩), undef, .int .u64 (x.1.2 : Int), .pointer (some ⟨R, 0, none⟩), .agg #[.int .u64 0, .int .u64 0, .int .u64 0, .int .u64 0], .pointer (some ⟨R, 0, none⟩), .pointer (some ⟨R, 8, none⟩), .pointer (some ⟨R, 0, none⟩), .pointer (some ⟨R, 0, none⟩), .pointer (some ⟨R, 0, none⟩), .slice (some ⟨R, 0, none⟩) 8 8, .func (.func 69) #[] #[.pointer (some ⟨w.heap.size + 2, 0, none⟩)], .int .i64 (x.1.1 : Int), .int .u64 (x.1.2 : Int), undef, undef, undef, undef, undef, undef, undef], defers := [] }) ?assign ?body ?done ?stop
  case assign =>
    intro l x W K hK
    unfold pwE
    gi_wp2
    exact hK
  case body =>
    rintro l pre x W hI _
    have hbox := hI.box.cell (i := 0) rfl
    have hgW := hI.grown
    have HJ := Lib.hid hI; clear hI
    gi_wp2_with (refine ⟨trivial, ?_⟩; gi_at_call 40; refine (CallsIn.inRound l (callsIn_wide.2 (bringDown_any R (fold pre) x.1.2 T (wds N 8) W rfl x.2 HJ.out.tab hR HJ.out.rest))).mono ?_; rintro e W' ⟨rfl, hg', hb'⟩)
    rw [← fold_snoc] at hb'
    refine ⟨KeepsFrom.of_grownBy hg' (fun j e => by cases e; omega), ⟨fun j hj => ?_, ?_⟩, ?_⟩
    · rw [hb'.cell (wds_get N 8 j hj _), HJ.out.rest.cell (wds_get N 8 j hj _)]
    · exact gb_cell hg' (p := ⟨w.heap.size + 2, 0, none⟩) (show w.heap.size + 2 < W.heap.size by have := HJ.out.size; omega) (some_ne' (by show w.heap.size + 2 ≠ R; omega))
    · exact ⟨hb', HJ.out.tab.kept hg' (fun r e => by cases e; exact hR), HJ.out.box.grown hg' (some_ne' (by omega)), HJ.out.res.grown hg' (some_ne' (by omega)), gb_trans HJ.out.grown hg', Nat.le_trans HJ.out.size hg'.size⟩
  case done =>
    rintro D ys W hD rfl hI hK
    have hf := fold_down N 8 HN.out (Nat.le_refl _)
    rw [show 64 * (8 - 8) = 0 from rfl, Nat.pow_zero, Nat.div_one] at hf
    have hrest := hI.rest
    rw [hf] at hrest
    have hres := hI.res
    have hbox := hI.box.cell (i := 0) rfl
    obtain ⟨q0, q1, q2, q3⟩ := recL_get (wds N 8) rfl (N % Sc.L)
    have k0 := hrest.cell q0
    have k1 := hrest.cell q1
    have k2 := hrest.cell q2
    have k3 := hrest.cell q3
    have r0 := hres.cell (i := 0) rfl
    have r1 := hres.cell (i := 1) rfl
    have r2 := hres.cell (i := 2) rfl
    have r3 := hres.cell (i := 3) rfl
    have f0 := hres.free 0
    have f1 := hres.free 1
    have f2 := hres.free 2
    have f3 := hres.free 3
    unfold wV u64N at k0 k1 k2 k3
    have HRe := Lib.hid hrest; clear hrest hres q0 q1 q2 q3 hf
    have HJ := Lib.hid hI; clear hI
    gi_wp2
    have hR4 := (((((HJ.out.res.set 0 (.int .u64 (Sc.wrd (N % Sc.L) 0 : Int))).set 1 (.int .u64 (Sc.wrd (N % Sc.L) 1 : Int))).set 2 (.int .u64 (Sc.wrd (N % Sc.L) 2 : Int))).set 3 (.int .u64 (Sc.wrd (N % Sc.L) 3 : Int))))
    have hB4 := (((HRe.out.other (a := ⟨w.heap.size + 1, 0, none⟩) (by show w.heap.size + 1 ≠ R; omega) (.int .u64 (Sc.wrd (N % Sc.L) 0 : Int))).other (a := ⟨w.heap.size + 1, 1, none⟩) (by show w.heap.size + 1 ≠ R; omega) (.int .u64 (Sc.wrd (N % Sc.L) 1 : Int))).other (a := ⟨w.heap.size + 1, 2, none⟩) (by show w.heap.size + 1 ≠ R; omega) (.int .u64 (Sc.wrd (N % Sc.L) 2 : Int))).other (a := ⟨w.heap.size + 1, 3, none⟩) (by show w.heap.size + 1 ≠ R; omega) (.int .u64 (Sc.wrd (N % Sc.L) 3 : Int))
    have hg4 := gb_set_new (gb_set_new (gb_set_new (gb_set_new HJ.out.grown (p := ⟨w.heap.size + 1, 0, none⟩) (Nat.le_succ _) (.int .u64 (Sc.wrd (N % Sc.L) 0 : Int))) (p := ⟨w.heap.size + 1, 1, none⟩) (Nat.le_succ _) (.int .u64 (Sc.wrd (N % Sc.L) 1 : Int))) (p := ⟨w.heap.size + 1, 2, none⟩) (Nat.le_succ _) (.int .u64 (Sc.wrd (N % Sc.L) 2 : Int))) (p := ⟨w.heap.size + 1, 3, none⟩) (Nat.le_succ _) (.int .u64 (Sc.wrd (N % Sc.L) 3 : Int))
    have hK4 := (((KeepsOthers.setCell W ⟨w.heap.size + 1, 0, none⟩ (.int .u64 (Sc.wrd (N % Sc.L) 0 : Int))).trans (KeepsOthers.setCell _ ⟨w.heap.size + 1, 1, none⟩ (.int .u64 (Sc.wrd (N % Sc.L) 1 : Int)))).trans (KeepsOthers.setCell _ ⟨w.heap.size + 1, 2, none⟩ (.int .u64 (Sc.wrd (N % Sc.L) 2 : Int)))).trans (KeepsOthers.setCell _ ⟨w.heap.size + 1, 3, none⟩ (.int .u64 (Sc.wrd (N % Sc.L) 3 : Int)))
    have hK5 := hK4.same D _ hK rfl
    clear hK4 r0 r1 r2 r3 f0 f1 f2 f3 k0 k1 k2 k3 hbox hK HRe HI
    have hs4 : w3.heap.size ≤ D := hD
    revert hR4 hB4 hg4 hK5
    generalize (((W.setCell ⟨w.heap.size + 1, 0, none⟩ (.int .u64 (Sc.wrd (N % Sc.L) 0 : Int))).setCell ⟨w.heap.size + 1, 1, none⟩ (.int .u64 (Sc.wrd (N % Sc.L) 1 : Int))).setCell ⟨w.heap.size + 1, 2, none⟩ (.int .u64 (Sc.wrd (N % Sc.L) 2 : Int))).setCell ⟨w.heap.size + 1, 3, none⟩ (.int .u64 (Sc.wrd (N % Sc.L) 3 : Int)) = W4
    intro hR4 hB4 hg4 hK5
    have hp := grownBy_putObj' W4 D (.deferred none)
    have hR5 := hR4.grown hp (some_ne' (by omega))
    have hB5 := hB4.grown hp (some_ne' (by omega))
    have hg5 := gb_then hg4 hp (by omega)
    have r0 := hR5.cell (i := 0) rfl
    have r1 := hR5.cell (i := 1) rfl
    have r2 := hR5.cell (i := 2) rfl
    have r3 := hR5.cell (i := 3) rfl
    refine ⟨by simp, .inl ⟨_, _, rfl, run_takeDeferred hK5, ?_⟩⟩
    refine ⟨narrowV (N % Sc.L), ?_, rfl, hg5, hB5⟩
    simp [results, Tryz.results25, go_sem, r0, r1, r2, r3, narrowV, wV, u64N]
  case stop =>
    rintro D c pre W _ _ h _
    exact h.elim
end Go.Proofs.YtmnlidfalhjghaaGreatDoor
