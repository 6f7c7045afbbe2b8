/- The document's field: Less, P. -/
import Derived.Test.YtjgfhihngbhljaaDoorNrM
import Derived.BigRegion
import Derived.RegionTactic
import Derived.Sort.CutIn
import Derived.Deep.QuietTactic
import Derived.BigQuiet
namespace Go.Proofs.YtjgfhihngbhljaaDoor
open Go.RowKit Ns
namespace Nr
/-- what decides, from a part on downwards -/
theorem less_here {a b : List Nat} {i : Nat} (ha : Whole a) (hb : Whole b) (la : a.length = 16) (lb : b.length = 16) (hi : i < 16) (he : a.drop (i + 1) = b.drop (i + 1)) (hne : a.getD i 0 ≠ b.getD i 0) : decide (V a < V b) = decide (a.getD i 0 < b.getD i 0) := by
  rcases Nat.lt_or_ge (a.getD i 0) (b.getD i 0) with h | h
  · rw [decide_eq_true h, decide_eq_true (V_less a b i ha (by omega) (by omega) he h)]
  · have hlt : b.getD i 0 < a.getD i 0 := by omega
    have := V_less b a i hb (by omega) (by omega) he.symm hlt
    rw [decide_eq_false (p := V a < V b) (by omega), decide_eq_false (p := a.getD i 0 < b.getD i 0) (by omega)]
theorem drop_here {a b : List Nat} {i : Nat} (la : a.length = 16) (lb : b.length = 16) (hi : i < 16) (he : a.drop (i + 1) = b.drop (i + 1)) (h : a.getD i 0 = b.getD i 0) : a.drop i = b.drop i := by
  have e1 : a.getD i 0 = a[i] := by rw [List.getD_eq_getElem?_getD, List.getElem?_eq_getElem (by omega : i < a.length)]; rfl
  have e2 : b.getD i 0 = b[i] := by rw [List.getD_eq_getElem?_getD, List.getElem?_eq_getElem (by omega : i < b.length)]; rfl
  rw [e1, e2] at h
  rw [List.drop_eq_getElem_cons (l := a) (by omega), List.drop_eq_getElem_cons (l := b) (by omega), he, h]
set_option maxRecDepth 100000 in
set_option maxHeartbeats 2000000 in
theorem less_any (a b : List Nat) (w : World) (ha : Whole a) (hb : Whole b) (la : a.length = 16) (lb : b.length = 16) :
    Calls Tryd.prog 38 #[nV a, nV b] w fun e w' => e = .returned (.bool (decide (V a < V b))) ∧ w.grownBy w' none := by
  have wa := fun i => of_whole ha i
  have wb := fun i => of_whole hb i
  have HW := Lib.hid (And.intro ha hb); clear ha hb
  unfold nV
  go_enter Tryd.func38, Tryd.ntmps38
  go_upto_region 1 with (fail)
  have bA := (new (w := w) rfl a).alloc (.cells (pL b).toArray 33)
  have bB := new (w := w.alloc (.cells (pL a).toArray 33)) (B := w.heap.size + 1) (by simp) b
  have g2 := gb_alloc (gb_alloc (gb_refl w none) (.cells (pL a).toArray 33)) (.cells (pL b).toArray 33)
  revert bA bB g2
  generalize (w.alloc (.cells (pL a).toArray 33)).alloc (.cells (pL b).toArray 33) = w2
  intro bA bB g2
  have H2 := Lib.hid (And.intro g2 (And.intro bA bB)); clear g2 bA bB
  go_wp2
  go_loopw [5] (fun i wr => ∃ (q : Int) (k : Nat), q + 1 = k ∧ k ≤ 16 ∧ i = .int .i64 q ∧ a.drop k = b.drop k ∧ w2.grownBy wr none) (fun i _ => (intOf i + 1).toNat)
  case atStart => exact ⟨15, 16, by decide, by omega, rfl, by rw [List.drop_eq_nil_of_le (by omega), List.drop_eq_nil_of_le (by omega)], gb_refl _ _⟩
  case round =>
    obtain ⟨q, k, hq, hk, rfl, he, hg⟩ := hrel
    by_cases h0 : 0 ≤ q
    · obtain ⟨i, rfl⟩ := Int.eq_ofNat_of_zero_le h0
      obtain rfl : k = i + 1 := by omega
      have hi : i < 16 := by omega
      have c0 := (gb_cell hg (p := ⟨w.heap.size, i, none⟩) (block_lt_of_cell (cell H2.out.2.1 i (by omega))) (by simp)).trans (cell H2.out.2.1 i (by omega))
      have c1 := (gb_cell hg (p := ⟨w.heap.size + 1, i, none⟩) (block_lt_of_cell (cell H2.out.2.2 i (by omega))) (by simp)).trans (cell H2.out.2.2 i (by omega))
      have v0 := wa i
      have v1 := wb i
      have hd : a.getD i 0 ≠ b.getD i 0 → decide (V a < V b) = decide (a.getD i 0 < b.getD i 0) := less_here HW.out.1 HW.out.2 la lb hi he
      have hs : a.getD i 0 = b.getD i 0 → a.drop i = b.drop i := drop_here la lb hi he
      generalize a.getD i 0 = x at *
      generalize b.getD i 0 = y at *
      have i0 : (i : Int) < 16 := by omega
      have HG := Lib.hid (And.intro hg (And.intro hd hs)); clear hg hd hs he
      rcases Nat.lt_trichotomy x y with h | h | h
      · have i1 : (x : Int) < (y : Int) := by omega
        go_wp2
        go_quiet (fail)
        go_wp2
        go_quiet (fail)
        go_wp2
        go_ret
        refine ⟨?_, gb_trans H2.out.1 (gb_drewN (gb_drewN HG.out.1 _) _)⟩
        rw [HG.out.2.1 (by omega)]
        simp [h]
      · subst h
        go_wp2
        go_quiet (fail)
        go_wp2
        exact ⟨⟨(i : Int) - 1, i, by omega, by omega, rfl, HG.out.2.2 trivial, gb_drewN HG.out.1 _⟩, by simp [intOf]⟩
      · have i1 : (y : Int) < (x : Int) := by omega
        go_wp2
        go_quiet (fail)
        go_wp2
        go_quiet (fail)
        go_wp2
        go_ret
        refine ⟨?_, gb_trans H2.out.1 (gb_drewN (gb_drewN HG.out.1 _) _)⟩
        rw [HG.out.2.1 (by omega)]
        simp
        first | done | omega
    · obtain rfl : k = 0 := by omega
      obtain rfl : q = -1 := by omega
      have e : a = b := by simpa using he
      subst e
      go_wp2
      go_ret
      exact ⟨by simp, gb_trans H2.out.1 hg⟩
/-- the first parts are set, the others are none -/
def fillF (k : Nat) : List Nat := List.replicate k 65535 ++ List.replicate (16 - k) 0
theorem fillF_set (k : Nat) (h : k < 16) : (fillF k).set k 65535 = fillF (k + 1) := by
  have : ∀ j : Fin 16, (fillF j.1).set j.1 65535 = fillF (j.1 + 1) := by decide
  exact this ⟨k, h⟩
theorem fillF_len (k : Nat) (h : k ≤ 16) : (fillF k).length = 16 := by simp [fillF]; omega
theorem Pp_len : Pp.length = 16 := rfl
set_option maxRecDepth 100000 in
set_option maxHeartbeats 2000000 in
theorem p_any (w : World) : Calls Tryd.prog 39 #[] w (Out Pp w) := by
  go_enter Tryd.func39, Tryd.ntmps39
  go_upto_region 2 with (fail)
  show Code.wp _ _ _ _ ((w.alloc (.cells (pL zeros).toArray 33)).alloc (.cells (pL zeros).toArray 33))
  have bA := (new (w := w) rfl zeros).alloc (.cells (pL zeros).toArray 33)
  have bB := new (w := w.alloc (.cells (pL zeros).toArray 33)) (B := w.heap.size + 1) (by simp) zeros
  have g2 := gb_alloc (gb_alloc (gb_refl w none) (.cells (pL zeros).toArray 33)) (.cells (pL zeros).toArray 33)
  revert bA bB g2
  generalize (w.alloc (.cells (pL zeros).toArray 33)).alloc (.cells (pL zeros).toArray 33) = w2
  intro bA bB g2
  have H2 := Lib.hid (And.intro g2 (And.intro bA bB)); clear g2 bA bB
  go_wp2
  go_loopw [2] (fun i wr => ∃ k : Nat, k ≤ 16 ∧ i = .int .i64 k ∧ w.grownBy wr none ∧ Blk wr w.heap.size 33 (pL zeros) ∧ Blk wr (w.heap.size + 1) 33 (pL (fillF k))) (fun i _ => 16 - (intOf i).toNat)
  case atStart => exact ⟨0, by omega, rfl, H2.out.1, H2.out.2.1, H2.out.2.2⟩
  case round =>
    obtain ⟨k, hk, rfl, hg, hz, hb⟩ := hrel
    by_cases hlt : k < 16
    · have i0 : (k : Int) < 16 := by omega
      have c0 := cell hb k (by rw [fillF_len k hk]; exact hlt)
      have f0 := hb.free k
      have hs := set hb k 65535
      rw [fillF_set k hlt] at hs
      have HI := Lib.hid (And.intro (gb_set_new hg (p := ⟨w.heap.size + 1, k, none⟩) (Nat.le_succ _) (.int .u64 65535)) (And.intro (hz.other (a := ⟨w.heap.size + 1, k, none⟩) (by show w.heap.size + 1 ≠ w.heap.size; omega) (.int .u64 65535)) hs)); clear hg hz hb hs
      go_wp2
      go_roundw
      case rel => exact ⟨k + 1, by omega, by go_num, HI.out.1, HI.out.2.1, HI.out.2.2⟩
      case measure => simp [intOf]; omega
    · obtain rfl : k = 16 := by omega
      have c0 := cell hb 0 (by decide)
      have f0 := hb.free 0
      have f15 := hb.free 15
      have c15 := cell hb 15 (by decide)
      have hs := set (set hb 0 65517) 15 32767
      rw [show ((fillF 16).set 0 65517).set 15 32767 = Pp by decide] at hs
      have hz2 := (hz.other (a := ⟨w.heap.size + 1, 0, none⟩) (by show w.heap.size + 1 ≠ w.heap.size; omega) (.int .u64 65517)).other (a := ⟨w.heap.size + 1, 15, none⟩) (by show w.heap.size + 1 ≠ w.heap.size; omega) (.int .u64 32767)
      have hg2 := gb_set_new (gb_set_new hg (p := ⟨w.heap.size + 1, 0, none⟩) (Nat.le_succ _) (.int .u64 65517)) (p := ⟨w.heap.size + 1, 15, none⟩) (Nat.le_succ _) (.int .u64 32767)
      have HI := Lib.hid (And.intro hg2 (And.intro hz2 hs)); clear hg hz hb hs hz2 hg2
      go_upto_region 8 with (fail)
      obtain ⟨rN, hrN⟩ : ∃ r : List Nat, r = Pp := ⟨_, rfl⟩
      have hrl : rN.length = 16 := by rw [hrN]; exact Pp_len
      have hrb := HI.out.2.2
      rw [← hrN] at hrb
      have HRN := Lib.hid hrN; clear hrN
      refine wp_region_lit ?_
      refine Fg.wpl_value (v := nV rN) (w' := _) rfl (ld rfl rfl hrb hrl rfl rfl) ?_
      simp only [Act.put, List.setIfInBounds_toArray, List.set_cons_succ, List.set_cons_zero]
      refine Fg.wpl_skip rfl rfl (st (l := rN) rfl rfl rfl (HI.out.2.1) (by rw [pL_len]; rfl) (hrl) rfl) ?_
      refine wpList_nil ?_
      have hR := stored (l := rN) (HI.out.2.1) (by rw [pL_len]; rfl) (hrl)
      have gR := gb_setCells_new (cs := pL rN) (HI.out.1) (B := w.heap.size) (by omega) 0
      revert gR; revert hR
      generalize World.setCells _ _ _ _ = wR
      intro hR gR
      go_wp2_with fail
      exact bodyPost_ret (v := nV rN) (res Tryd.results39 _ _ (w.heap.size) rN rfl hR (hrl)) rfl ⟨by rw [HRN.out], gR⟩
end Nr
end Go.Proofs.YtjgfhihngbhljaaDoor
