/- shard: the number of a digest's first bits. -/
import Derived.Test.YtpihmhabcmheaaaDoorShdBits
import Derived.Test.YtpihmhabcmheaaaDoorFlowS
import Derived.Sort.CutIn
namespace Go.Proofs.YtpihmhabcmheaaaDoor
open Go.RowKit Ow Go.Shelf
attribute [local go_sem] Oper.semAt_some
theorem info_octets : (Tryd.prog.info? 30).map (·.size) = some 64 := by kernel_rfl
theorem info_digest : (Tryd.prog.info? 32).map (·.size) = some 64 := by kernel_rfl
theorem some_ne' {a b : Nat} (h : a ≠ b) : some a ≠ some b := fun e => h (Option.some.inj e)
theorem blk_from {w w' : World} {B : Nat} {T : TypeId} {L : List Value} {row : Option Nat} {n : Nat} (h : Blk w B T L) (hg : w.grownBy w' row) (hr : ∀ r, row = some r → n ≤ r ∧ ∃ o : Obj, w.heap[r]? = some o ∧ o.isCells = false) : Blk w' B T L := by
  refine h.grown hg ?_
  intro e
  obtain ⟨_, o, ho, hc⟩ := hr B e.symm
  unfold Blk at h
  rw [h] at ho
  cases ho
  simp [Obj.isCells] at hc
theorem gb_from {a b c : World} {row row' : Option Nat} (h : a.grownBy b row) (k : b.grownBy c row') (hr : ∀ r, row' = some r → a.heap.size ≤ r) : a.grownBy c row := by
  cases row' with
  | none => exact gb_trans h (gb_row k _)
  | some r => exact gb_then h k (hr r rfl)
def foldN (pre : List Bt) : Nat := pre.foldl (fun r x => 2 * r + x.1) 0
theorem foldN_snoc (pre : List Bt) (x : Bt) : foldN (pre ++ [x]) = 2 * foldN pre + x.1 := by unfold foldN; rw [List.foldl_append]; rfl
theorem foldN_two (D : List Nat) : foldN (bitsV D 0 2) = shardN D := by
  rw [bitsV_succ, bitsV_succ, foldN_snoc, foldN_snoc]
  show 2 * (2 * 0 + bitA D 0) + bitA D 1 = _
  unfold shardN
  omega
theorem foldN_small : ∀ (pre : List Bt), pre.length < 2 → foldN pre < 2
  | [], _ => by decide
  | [x], _ => by have := x.2; show 2 * 0 + x.1 < 2; omega
  | _ :: _ :: _, h => by simp only [List.length_cons] at h; omega
/-- what holds between two bits -/
structure ShI (w0 : World) (S M : Nat) (pre : List Bt) (W : World) : Prop where
  box : Blk W S 3 [.int .i64 (foldN pre : Int)]
  grown : w0.grownBy W none
  size : M ≤ W.heap.size
theorem shI_own (w0 : World) (S M n : Nat) (hn : w0.heap.size ≤ n) : OwnFrom n (ShI w0 S M) := fun s A B row h hg hr =>
  ⟨blk_from h.box hg hr, gb_from h.grown hg (fun r e => by have := (hr r e).1; omega), Nat.le_trans h.size hg.size⟩
set_option maxRecDepth 100000 in
set_option maxHeartbeats 12800000 in
theorem shard_any (D : List Nat) (w0 : World) (hl : D.length = 64) (hD : ∀ i, D.getD i 0 < 256) :
    Calls Tryd.prog 13 #[.agg (D.map u8N).toArray] w0 fun e w' => e = .returned (.int .i64 (shardN D : Int)) ∧ w0.grownBy w' none := by
  obtain ⟨V, hV⟩ : ∃ V, V = D.map u8N := ⟨_, rfl⟩
  rw [← hV]
  have HV := Lib.hid hV; clear hV
  refine (callsIn_wide (n := 9)).1 ?_
  refine callsIn_of_wp_marks Tryd.func13 rfl trivial ?_ rfl
  simp only [Tryd.ntmps13, List.size_toArray, List.length_cons, List.length_nil, Nat.reduceAdd, Nat.reduceSub, Array.replicate_succ, Array.replicate_zero, List.push_toArray, List.append_toArray, List.nil_append, List.cons_append]
  refine wpIn_wide.2 ?_
  go_upto_region 2 with (fail)
  have hb0 := (blk_at w0 (B := w0.heap.size) V 32 rfl).alloc (.cells [Value.int .i64 0].toArray 3)
  have hb1 := blk_at (w0.alloc (.cells V.toArray 32)) (B := w0.heap.size + 1) [Value.int .i64 0] 3 (by simp)
  have G1 := gb_alloc (gb_alloc (gb_refl w0 none) (.cells V.toArray 32)) (.cells [Value.int .i64 0].toArray 3)
  have s1 : ((w0.alloc (.cells V.toArray 32)).alloc (.cells [Value.int .i64 0].toArray 3)).heap.size = w0.heap.size + 2 := by simp
  revert hb0 hb1 G1 s1
  show _ → _ → _ → _ → Code.wp _ _ _ _ ((w0.alloc (.cells V.toArray 32)).alloc (.cells [Value.int .i64 0].toArray 3))
  generalize (w0.alloc (.cells V.toArray 32)).alloc (.cells [Value.int .i64 0].toArray 3) = w1
  intro hb0 hb1 G1 s1
  have hVl : V.length = 64 := by rw [HV.out, List.length_map, hl]
  refine wp_region_lit ?_
  refine Fg.wpl_value (v := .pointer (some ⟨w0.heap.size, 0, none⟩)) (w' := w1) rfl (by go_simp) ?_
  refine Fg.wpl_value (v := .agg V.toArray) (w' := w1) rfl (Fg.run_load rfl rfl (hb0.range 0 V (by rw [List.drop_zero, List.take_length])) Tryd.underlying30 rfl (by rw [hVl]; exact info_octets)) ?_
  refine Fg.wpl_call rfl (Fg.run_call (vs := #[.agg V.toArray, .int .i64 0, .int .i64 2]) rfl rfl (by simp only [List.map_toArray, List.map_cons, List.map_nil, Act.eval]; rfl) (Fg.run_enter Tryd.func19 (by kernel_rfl) (by kernel_rfl))) ?_
  refine ((callsIn_wide (n := 8)).1 (bits_in Fence.wide 8 trivial rfl V 0 2 w1)).mono ?_
  rintro e w2 ⟨rfl, hw2⟩
  refine ⟨_, rfl, ?_⟩
  refine wpList_nil ?_
  simp only [Act.put, List.setIfInBounds_toArray, List.set_cons_succ, List.set_cons_zero]
  have hO : Blk w2 w1.heap.size 30 V := by subst hw2; exact ((blk_at w1 (B := w1.heap.size) V 30 rfl).alloc _).alloc _
  have hF : Blk w2 (w1.heap.size + 1) 3 [.int .i64 0] := by subst hw2; exact (blk_at (w1.alloc (.cells V.toArray 30)) (B := w1.heap.size + 1) [.int .i64 0] 3 (by simp)).alloc _
  have hT : Blk w2 (w1.heap.size + 2) 3 [.int .i64 2] := by subst hw2; exact blk_at ((w1.alloc (.cells V.toArray 30)).alloc (.cells [.int .i64 0].toArray 3)) (B := w1.heap.size + 2) [.int .i64 2] 3 (by simp)
  have g2 : w1.grownBy w2 none := by subst hw2; exact gb_alloc (gb_alloc (gb_alloc (gb_refl w1 none) _) _) _
  have s2 : w2.heap.size = w1.heap.size + 3 := by subst hw2; simp
  have hI0 : ShI w0 (w0.heap.size + 1) w2.heap.size [] w2 := ⟨hb1.grown g2 (by simp), gb_trans G1 g2, by omega⟩
  have hOc : ∀ j, j < 64 → w2.cell? ⟨w1.heap.size, j, none⟩ = some (u8N (D.getD j 0)) := fun j hj => hO.cell (by rw [HV.out]; exact u8_getD (by omega))
  clear hw2 hb0 hb1 g2 G1
  go_wp2_with fail
  obtain ⟨S, hS⟩ : ∃ S, S = w1.heap.size := ⟨_, rfl⟩
  rw [← hS] at hO hF hT hOc s2 ⊢
  have hS2 : w0.heap.size + 2 ≤ S := by omega
  clear hS s1
  refine (wpIn_wide (n := 9)).1 ?_
  refine wpIn_rangeFunc_ownG (F := Fence.wide) (n := 9) rfl (by decide) (gf := 26) (lb := #[.pointer (some ⟨S + 1, 0, none⟩), .pointer (some ⟨S + 2, 0, none⟩), .pointer (some ⟨S, 0, none⟩)]) rfl trivial (enters_of Tryd.func26 (by kernel_rfl) rfl)
    (w0 := w2) (bits_stops Fence.wide 8 trivial rfl (by decide) (S + 1) (S + 2) S 0 2 2 D hD rfl (by decide) w2 (by omega) (by omega) (by omega) (hF.cell (i := 0) rfl) (hT.cell (i := 0) rfl) hOc)
    (fun h k => keepsB_t h k) (fun W l o o' hl h _ _ => keepsB_b (n := w2.heap.size) (by omega) (by omega) W l o o' hl h) (Below.refl _ _) (fun _ => rfl)
    (ShI w0 (w0.heap.size + 1) w2.heap.size) (fun _ _ _ => False) (shI_own _ _ _ _ (by omega)) (fun _ _ _ _ _ h _ _ => h) hI0
    (fun x => { tmps := #[.agg V.toArray, .pointer (some ⟨w0.heap.size, 0, none⟩), .int .i64 0, .pointer (some ⟨w0.heap.size + 1, 0, none⟩), .int .u8 (x.1 : Int), .pointer (some ⟨w0.heap.size, 0, none⟩), .agg V.toArray, .func (.func 26) #[] #[.pointer (some ⟨S + 1, 0, none⟩), .pointer (some ⟨S + 2, 0, none⟩), .pointer (some ⟨S, 0, none⟩)], .int .u8 (x.1 : Int), undef, undef, undef, undef, undef, undef], defers := [] }) ?assign ?body ?done ?stop
  case assign =>
    intro l x W K hK
    unfold btE
    gi_wp2
    exact hK
  case body =>
    rintro l pre x W hI hlen
    have c1 := hI.box.cell (i := 0) rfl
    have hx := x.2
    have hf := foldN_small pre hlen
    have hnx := foldN_snoc pre x
    generalize foldN pre = y at c1 hf hnx
    have hq := hI.box.free 0
    have HJ := Lib.hid (And.intro hI hnx); clear hI hnx
    obtain ⟨x, hxx⟩ := x
    dsimp only at *
    gi_wp2
    have e1 : (2 * (y : Int) + (x : Int)) = ((2 * y + x : Nat) : Int) := by omega
    rw [e1]
    have hg' := gb_set (gb_refl W (some (w0.heap.size + 1))) 0 (.int .i64 ((2 * y + x : Nat) : Int))
    have zW := HJ.out.1.size
    refine ⟨KeepsFrom.of_grownBy hg' (fun j e => by cases e; omega), ⟨fun j hj => ?_, ?_⟩, ?_⟩
    · exact gb_cell hg' (p := ⟨S, j, none⟩) (show S < W.heap.size by omega) (some_ne' (by show S ≠ w0.heap.size + 1; omega))
    · exact gb_cell hg' (p := ⟨S + 2, 0, none⟩) (show S + 2 < W.heap.size by omega) (some_ne' (by show S + 2 ≠ w0.heap.size + 1; omega))
    · refine ⟨?_, gb_then HJ.out.1.grown hg' (by omega), Nat.le_trans HJ.out.1.size hg'.size⟩
      rw [HJ.out.2]
      exact HJ.out.1.box.set 0 _
  case done =>
    rintro D' ys W hD' rfl hI hK
    have c1 := hI.box.cell (i := 0) rfl
    rw [foldN_two] at c1
    have hDl : D' < W.heap.size := (Array.getElem?_eq_some_iff.1 hK).1
    have hg := hI.grown
    have hpo := grownBy_putObj' W D' (.deferred none)
    have hg5 := gb_then hg hpo (by omega)
    have HK := Lib.hid (And.intro hK hg5); clear hK hg5 hg hpo
    go_wp2_with fail
    refine ⟨by simp, .inl ⟨_, _, rfl, run_takeDeferred HK.out.1, ?_⟩⟩
    refine ⟨.int .i64 (shardN D : Int), ?_, rfl, HK.out.2⟩
    simp [results, Tryd.results13, go_sem]
  case stop =>
    rintro D c pre W _ _ h _
    exact h.elim
end Go.Proofs.YtpihmhabcmheaaaDoor
