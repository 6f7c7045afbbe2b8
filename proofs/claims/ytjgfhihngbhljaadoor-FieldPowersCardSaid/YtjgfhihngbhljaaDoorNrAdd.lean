/- The document's field: Small, Add, Odd. -/
import Derived.Test.YtjgfhihngbhljaaDoorNrWhole
namespace Go.Proofs.YtjgfhihngbhljaaDoor
open Go.RowKit Ns
namespace Nr
theorem num_len (v : Nat) : (num v).length = 16 := parts_len 16 _
theorem num_whole (v : Nat) : Whole (num v) := parts_whole 16 _
set_option maxRecDepth 100000 in
set_option maxHeartbeats 2000000 in
theorem small_any (x : Nat) (w0 : World) (hx : x < 2 ^ 60) : Calls Tryd.prog 20 #[.int .u64 (x : Int)] w0 (Out (num x) w0) := by
  go_enter Tryd.func20, Tryd.ntmps20
  go_upto_region 2 with (fail)
  show Code.wp _ _ _ _ ((w0.alloc (.cells (pL zeros).toArray 33)).alloc (.cells (pL zeros).toArray 33))
  have bA := (new (w := w0) rfl zeros).alloc (.cells (pL zeros).toArray 33)
  have bB := new (w := w0.alloc (.cells (pL zeros).toArray 33)) (B := w0.heap.size + 1) (by simp) zeros
  have g2 := gb_alloc (gb_alloc (gb_refl w0 none) (.cells (pL zeros).toArray 33)) (.cells (pL zeros).toArray 33)
  revert g2; revert bB; revert bA
  generalize (w0.alloc (.cells (pL zeros).toArray 33)).alloc (.cells (pL zeros).toArray 33) = w2
  intro bA bB g2
  have c0 := cell bB 0 (by decide)
  have f0 := bB.free 0
  have hs := set bB 0 x
  have hz := bA.other (a := ⟨w0.heap.size + 1, 0, none⟩) (by show w0.heap.size + 1 ≠ w0.heap.size; omega) (.int .u64 (x : Int))
  have hg := gb_set_new g2 (p := ⟨w0.heap.size + 1, 0, none⟩) (Nat.le_succ _) (.int .u64 (x : Int))
  have hl : (zeros.set 0 x).length = 16 := rfl
  have hv : V (zeros.set 0 x) = x := by show x + 65536 * V (List.replicate 15 0) = x; rw [show V (List.replicate 15 0) = 0 by decide]; omega
  have hlow : ∀ j, (zeros.set 0 x).getD j 0 < 2 ^ 60 := fun j => by
    rw [set_getD _ _ _ _ (by decide)]
    split
    · exact hx
    · rw [List.getD_eq_getElem?_getD]
      by_cases h : j < 16
      · rw [List.getElem?_replicate_of_lt h]; decide
      · rw [List.getElem?_eq_none (by rw [List.length_replicate]; omega)]; decide
  obtain ⟨T, hT⟩ : ∃ T, T = zeros.set 0 x := ⟨_, rfl⟩
  rw [← hT] at hs hl hv hlow
  have HI := Lib.hid (And.intro hg (And.intro hz hs)); clear hg hz hs bA bB g2 hT
  go_upto_region 3 with (fail)
  obtain ⟨W3, hW3⟩ : ∃ W3, W3 = w2.setCell ⟨w0.heap.size + 1, 0, none⟩ (.int .u64 (x : Int)) := ⟨_, rfl⟩
  rw [← hW3] at HI ⊢
  clear hW3 c0 f0
  refine wp_region_lit ?_
  refine Fg.wpl_value (v := nV (T)) (w' := W3) rfl (ld rfl rfl (HI.out.2.2) (hl) rfl rfl) ?_
  simp only [Act.put, List.setIfInBounds_toArray, List.set_cons_succ, List.set_cons_zero]
  refine Fg.wpl_call rfl (Fg.run_call (vs := #[nV (T)]) rfl rfl (by simp only [List.map_toArray, List.map_cons, List.map_nil, Act.eval]; rfl) (Fg.run_enter Tryd.func36 (by kernel_rfl) (by kernel_rfl))) ?_
  refine (whole_any T W3 hl hlow).mono ?_
  rintro e wF ⟨rfl, gwF⟩
  refine ⟨_, rfl, ?_⟩
  simp only [Act.put, List.setIfInBounds_toArray, List.set_cons_succ, List.set_cons_zero]
  obtain ⟨rN, hrN⟩ : ∃ r : List Nat, r = num (V T) := ⟨_, rfl⟩
  have hrl : rN.length = 16 := by rw [hrN]; exact num_len _
  rw [← hrN]
  have HRN := Lib.hid hrN; clear hrN
  refine Fg.wpl_skip rfl rfl (st (l := rN) rfl rfl rfl ((HI.out.2.1).grown gwF (by simp)) (by rw [pL_len]; rfl) hrl rfl) ?_
  refine wpList_nil ?_
  have hR := stored (l := rN) ((HI.out.2.1).grown gwF (by simp)) (by rw [pL_len]; rfl) hrl
  have gR := gb_setCells_new (cs := pL rN) (gb_trans (HI.out.1) gwF) (B := w0.heap.size) (by omega) 0
  revert gR; revert hR
  generalize World.setCells _ _ _ _ = wR
  intro hR gR
  go_wp2_with fail
  exact bodyPost_ret (v := nV rN) (res Tryd.results20 _ _ (w0.heap.size) rN rfl hR hrl) rfl ⟨by rw [HRN.out, hv], gR⟩
/-- amid a sum -/
structure SumI (a b : List Nat) (k : Nat) (l : List Nat) : Prop where
  len : l.length = 16
  val : V l = V (a.take k) + V (b.take k)
  low : ∀ j, l.getD j 0 < 131072
  rest : ∀ j, k ≤ j → l.getD j 0 = 0
theorem zeros_get (j : Nat) : zeros.getD j 0 = 0 := by
  rw [List.getD_eq_getElem?_getD]
  by_cases h : j < 16
  · rw [List.getElem?_replicate_of_lt h]; rfl
  · rw [List.getElem?_eq_none (by rw [List.length_replicate]; omega)]; rfl
theorem SumI.start (a b : List Nat) : SumI a b 0 zeros := ⟨rfl, by simp [V_zeros, V], fun j => by rw [zeros_get]; decide, fun j _ => zeros_get j⟩
theorem SumI.next {a b l : List Nat} {k : Nat} (h : SumI a b k l) (hk : k < 16) (la : a.length = 16) (lb : b.length = 16) (ha : Whole a) (hb : Whole b) : SumI a b (k + 1) (l.set k (a.getD k 0 + b.getD k 0)) := by
  have hl := h.len
  have h0 := h.rest k (Nat.le_refl _)
  have va := of_whole ha k
  have vb := of_whole hb k
  refine ⟨by rw [List.length_set]; exact hl, ?_, fun j => ?_, fun j hj => ?_⟩
  · have h1 := V_set l k (a.getD k 0 + b.getD k 0) (by omega)
    rw [h0, Nat.mul_zero, Nat.add_zero] at h1
    rw [h1, V_take_succ a k (by omega), V_take_succ b k (by omega), h.val, Nat.mul_add]
    omega
  · rw [set_getD _ _ _ _ (by omega)]
    split
    · omega
    · exact h.low j
  · rw [set_getD _ _ _ _ (by omega), if_neg (by omega)]
    exact h.rest j (by omega)
set_option maxRecDepth 100000 in
set_option maxHeartbeats 4000000 in
theorem add_any (a b : List Nat) (w0 : World) (ha : Whole a) (hb : Whole b) (la : a.length = 16) (lb : b.length = 16) : Calls Tryd.prog 16 #[nV a, nV b] w0 (Out (num (V a + V b)) w0) := by
  unfold nV
  go_enter Tryd.func16, Tryd.ntmps16
  go_upto_region 2 with (fail)
  show Code.wp _ _ _ _ ((((w0.alloc (.cells (pL a).toArray 33)).alloc (.cells (pL b).toArray 33)).alloc (.cells (pL zeros).toArray 33)).alloc (.cells (pL zeros).toArray 33))
  obtain ⟨b1, b2, b3, b4, g4⟩ := four w0 a b
  revert g4; revert b4; revert b3; revert b2; revert b1
  generalize ((((w0.alloc (.cells (pL a).toArray 33)).alloc (.cells (pL b).toArray 33)).alloc (.cells (pL zeros).toArray 33)).alloc (.cells (pL zeros).toArray 33)) = w2
  intro b1 b2 b3 b4 g4
  have H2 := Lib.hid (And.intro g4 (And.intro b1 (And.intro b2 (And.intro b3 b4)))); clear g4 b1 b2 b3 b4
  have HA := Lib.hid (And.intro ha hb); clear ha hb
  go_wp2
  go_loopw [6] (fun i wr => ∃ (k : Nat) (l : List Nat), k ≤ 16 ∧ i = .int .i64 k ∧ SumI a b k l ∧ w0.grownBy wr none ∧ Blk wr w0.heap.size 33 (pL a) ∧ Blk wr (w0.heap.size + 1) 33 (pL b) ∧ Blk wr (w0.heap.size + 2) 33 (pL zeros) ∧ Blk wr (w0.heap.size + 3) 33 (pL l)) (fun i _ => 16 - (intOf i).toNat)
  case atStart => exact ⟨0, zeros, by omega, rfl, SumI.start a b, H2.out.1, H2.out.2.1, H2.out.2.2.1, H2.out.2.2.2.1, H2.out.2.2.2.2⟩
  case round =>
    obtain ⟨k, l, hk, rfl, hs, hg, h1, h2, h3, h4⟩ := hrel
    by_cases hlt : k < 16
    · have i0 : (k : Int) < 16 := by omega
      have hl := hs.len
      have c0 := cell h1 k (by omega)
      have c1 := cell h2 k (by omega)
      have c2 := cell h4 k (by omega)
      have hbd := h4.grown (gb_drew (gb_refl wr none)) (by simp)
      have f0 := hbd.free k
      have va := of_whole HA.out.1 k
      have vb := of_whole HA.out.2 k
      have hn := hs.next hlt la lb HA.out.1 HA.out.2
      have hst := set hbd k (a.getD k 0 + b.getD k 0)
      have hgs := gb_set_new (gb_drew hg) (p := ⟨w0.heap.size + 3, k, none⟩) (by show w0.heap.size ≤ w0.heap.size + 3; omega) (.int .u64 ((a.getD k 0 + b.getD k 0 : Nat) : Int))
      have ho := fun (B : Nat) (L : List Nat) (hB : w0.heap.size + 3 ≠ B) (h : Blk wr B 33 (pL L)) => (h.grown (gb_drew (gb_refl wr none)) (by simp)).other (a := ⟨w0.heap.size + 3, k, none⟩) hB (.int .u64 ((a.getD k 0 + b.getD k 0 : Nat) : Int))
      have o1 := ho _ _ (by omega) h1
      have o2 := ho _ _ (by omega) h2
      have o3 := ho _ _ (by omega) h3
      rw [show ((a.getD k 0 + b.getD k 0 : Nat) : Int) = ((a.getD k 0 : Nat) : Int) + ((b.getD k 0 : Nat) : Int) by omega] at hst hgs o1 o2 o3
      have HI := Lib.hid (And.intro hn (And.intro hgs (And.intro o1 (And.intro o2 (And.intro o3 hst))))); clear hn hgs o1 o2 o3 hst hs hg h1 h2 h3 h4 hbd ho
      generalize a.getD k 0 = x at *
      generalize b.getD k 0 = y at *
      go_wp2
      go_region
      go_wp2
      exact ⟨⟨k + 1, _, by omega, by congr 1, HI.out.1, HI.out.2.1, HI.out.2.2.1, HI.out.2.2.2.1, HI.out.2.2.2.2.1, HI.out.2.2.2.2.2⟩, by simp [intOf]; omega⟩
    · obtain rfl : k = 16 := by omega
      have hl := hs.len
      have hv := hs.val
      rw [List.take_of_length_le (Nat.le_of_eq la), List.take_of_length_le (Nat.le_of_eq lb)] at hv
      have hlow : ∀ j, l.getD j 0 < 2 ^ 60 := fun j => Nat.lt_trans (hs.low j) (by decide)
      have zz := h4.lt
      clear hs
      go_upto_region 6 with (fail)
      refine wp_region_lit ?_
      refine Fg.wpl_value (v := nV (l)) (w' := wr) rfl (ld rfl rfl (h4) (hl) rfl rfl) ?_
      simp only [Act.put, List.setIfInBounds_toArray, List.set_cons_succ, List.set_cons_zero]
      refine Fg.wpl_call rfl (Fg.run_call (vs := #[nV (l)]) rfl rfl (by simp only [List.map_toArray, List.map_cons, List.map_nil, Act.eval]; rfl) (Fg.run_enter Tryd.func36 (by kernel_rfl) (by kernel_rfl))) ?_
      refine (whole_any l wr hl hlow).mono ?_
      rintro e wF ⟨rfl, gwF⟩
      refine ⟨_, rfl, ?_⟩
      simp only [Act.put, List.setIfInBounds_toArray, List.set_cons_succ, List.set_cons_zero]
      obtain ⟨rN, hrN⟩ : ∃ r : List Nat, r = num (V l) := ⟨_, rfl⟩
      have hrl : rN.length = 16 := by rw [hrN]; exact num_len _
      rw [← hrN]
      have HRN := Lib.hid hrN; clear hrN
      refine Fg.wpl_skip rfl rfl (st (l := rN) rfl rfl rfl ((h3).grown gwF (by simp)) (by rw [pL_len]; rfl) hrl rfl) ?_
      refine wpList_nil ?_
      have hR := stored (l := rN) ((h3).grown gwF (by simp)) (by rw [pL_len]; rfl) hrl
      have gR := gb_setCells_new (cs := pL rN) (gb_trans (hg) gwF) (B := w0.heap.size + 2) (by omega) 0
      revert gR; revert hR
      generalize World.setCells _ _ _ _ = wR
      intro hR gR
      go_wp2_with fail
      exact bodyPost_ret (v := nV rN) (res Tryd.results16 _ _ (w0.heap.size + 2) rN rfl hR hrl) rfl ⟨by rw [HRN.out, hv], gR⟩
set_option maxRecDepth 100000 in
set_option maxHeartbeats 1000000 in
theorem odd_any (a : List Nat) (w0 : World) (ha : Whole a) (la : a.length = 16) : Calls Tryd.prog 23 #[nV a] w0 fun e w' => e = .returned (.bool (decide (a.getD 0 0 % 2 = 1))) ∧ w0.grownBy w' none := by
  have c0 := cell (new (w := w0) rfl a) 0 (by omega)
  have v0 := of_whole ha 0
  have g := gb_alloc (gb_refl w0 none) (.cells (pL a).toArray 33)
  unfold nV
  generalize a.getD 0 0 = x at *
  have hb : bits .and .u64 (x : Int) 1 = ((x % 2 : Nat) : Int) := and_one64 x (by omega)
  have HG := Lib.hid g; clear g
  rcases Nat.mod_two_eq_zero_or_one x with h | h
  · rw [h] at hb ⊢
    go_enter Tryd.func23, Tryd.ntmps23
    go_wp2
    go_ret
    exact ⟨rfl, HG.out⟩
  · rw [h] at hb ⊢
    go_enter Tryd.func23, Tryd.ntmps23
    go_wp2
    go_ret
    exact ⟨rfl, HG.out⟩
end Nr
end Go.Proofs.YtjgfhihngbhljaaDoor
