/- The document's field: Sub. -/
import Derived.Test.YtjgfhihngbhljaaDoorNrMul
namespace Go.Proofs.YtjgfhihngbhljaaDoor
open Go.RowKit Ns
namespace Nr
/-- what is told so far, in a row of its own -/
def Half (m l : List Nat) (k : Nat) : Prop := m.length = 16 ∧ m.take k = l.take k ∧ ∀ j, m.getD j 0 < 65536
theorem Half.next {m l : List Nat} {k x : Nat} (h : Half m l k) (hk : k < 16) (hl : l.length = 16) (hx : x < 65536) : Half (m.set k x) (l.set k x) (k + 1) := by
  obtain ⟨h1, h2, h3⟩ := h
  refine ⟨by rw [List.length_set]; exact h1, ?_, fun j => ?_⟩
  · rw [take_set m k x (by omega), take_set l k x (by omega), h2]
  · rw [set_getD _ _ _ _ (by omega)]
    split
    · exact hx
    · exact h3 j
theorem Half.done {m l : List Nat} (h : Half m l 16) (hl : l.length = 16) : m = l := by
  have := h.2.1
  rwa [List.take_of_length_le (Nat.le_of_eq h.1), List.take_of_length_le (Nat.le_of_eq hl)] at this
/-- two arguments, a result -/
theorem three (w0 : World) (a b : List Nat) : Blk (((w0.alloc (.cells (pL a).toArray 33)).alloc (.cells (pL b).toArray 33)).alloc (.cells (pL zeros).toArray 33)) w0.heap.size 33 (pL a) ∧
    Blk (((w0.alloc (.cells (pL a).toArray 33)).alloc (.cells (pL b).toArray 33)).alloc (.cells (pL zeros).toArray 33)) (w0.heap.size + 1) 33 (pL b) ∧
    Blk (((w0.alloc (.cells (pL a).toArray 33)).alloc (.cells (pL b).toArray 33)).alloc (.cells (pL zeros).toArray 33)) (w0.heap.size + 2) 33 (pL zeros) ∧
    w0.grownBy (((w0.alloc (.cells (pL a).toArray 33)).alloc (.cells (pL b).toArray 33)).alloc (.cells (pL zeros).toArray 33)) none :=
  ⟨((new rfl a).alloc _).alloc _, (new (by simp) b).alloc _, new (by simp) zeros, gb_alloc (gb_alloc (gb_alloc (gb_refl w0 none) _) _) _⟩
set_option maxRecDepth 100000 in
set_option maxHeartbeats 4000000 in
theorem sub_ge (a b : List Nat) (w0 : World) (ha : Whole a) (hb : Whole b) (la : a.length = 16) (lb : b.length = 16) (hge : V b ≤ V a) : Calls Tryd.prog 17 #[nV a, nV b] w0 (Out (num (V a - V b)) w0) := by
  obtain ⟨hd, hdc⟩ : ∃ d, d = decide (V a < V b) := ⟨_, rfl⟩
  have hdf : hd = false := by rw [hdc]; exact decide_eq_false (by omega)
  subst hdf
  unfold nV
  go_enter Tryd.func17, Tryd.ntmps17
  go_upto_region 1 with (fail)
  show Code.wp _ _ _ _ (((w0.alloc (.cells (pL a).toArray 33)).alloc (.cells (pL b).toArray 33)).alloc (.cells (pL zeros).toArray 33))
  obtain ⟨b1, b2, b3, g4⟩ := three w0 a b
  revert g4; revert b3; revert b2; revert b1
  generalize (((w0.alloc (.cells (pL a).toArray 33)).alloc (.cells (pL b).toArray 33)).alloc (.cells (pL zeros).toArray 33)) = w2
  intro b1 b2 b3 g4
  refine wp_region_lit ?_
  refine Fg.wpl_value (v := nV (a)) (w' := w2) rfl (ld rfl rfl (b1) (la) rfl rfl) ?_
  simp only [Act.put, List.setIfInBounds_toArray, List.set_cons_succ, List.set_cons_zero]
  refine Fg.wpl_value (v := nV (b)) (w' := w2) rfl (ld rfl rfl (b2) (lb) rfl rfl) ?_
  simp only [Act.put, List.setIfInBounds_toArray, List.set_cons_succ, List.set_cons_zero]
  refine Fg.wpl_call rfl (Fg.run_call (vs := #[nV a, nV b]) rfl rfl (by simp only [List.map_toArray, List.map_cons, List.map_nil, Act.eval]; rfl) (Fg.run_enter Tryd.func38 (by kernel_rfl) (by kernel_rfl))) ?_
  refine (less_any a b w2 ha hb la lb).mono ?_
  rintro e w3 ⟨rfl, gw3⟩
  refine ⟨_, rfl, ?_⟩
  simp only [Act.put, List.setIfInBounds_toArray, List.set_cons_succ, List.set_cons_zero]
  rw [← hdc]
  refine wpList_nil ?_
  have HA := Lib.hid (And.intro ha (And.intro hb (And.intro la (And.intro lb hge)))); clear ha hb la lb hge hdc
  have H3 := Lib.hid (And.intro (gb_trans g4 gw3) (And.intro (b1.grown gw3 (by simp)) (And.intro (b2.grown gw3 (by simp)) (b3.grown gw3 (by simp))))); clear b1 b2 g4
  have z3 := b3.lt
  have z2 := gw3.size
  clear b3 gw3
  go_upto_region 5 with (fail)
  show Code.wp _ _ _ _ (w3.alloc (.cells (pL zeros).toArray 33))
  have b4 := new (w := w3) rfl zeros
  have H4 := Lib.hid (And.intro (gb_alloc H3.out.1 (.cells (pL zeros).toArray 33)) (And.intro (H3.out.2.1.alloc (.cells (pL zeros).toArray 33)) (And.intro (H3.out.2.2.1.alloc (.cells (pL zeros).toArray 33)) (And.intro (H3.out.2.2.2.alloc (.cells (pL zeros).toArray 33)) b4)))); clear b4 H3
  obtain ⟨Q, hQ⟩ : ∃ Q, Q = w3.heap.size := ⟨_, rfl⟩
  have zQ : w0.heap.size + 2 < Q := by omega
  rw [← hQ] at H4 ⊢
  clear hQ z3 z2
  revert H4
  generalize w3.alloc (.cells (pL zeros).toArray 33) = w4
  intro H4
  go_wp2
  go_loopw [5, 7] (fun bv i wr => ∃ (k c : Nat) (l m : List Nat), k ≤ 16 ∧ i = .int .i64 k ∧ bv = .int .u64 c ∧ Dif a b l k c ∧ Half m l k ∧ w0.grownBy wr none ∧ Blk wr w0.heap.size 33 (pL a) ∧ Blk wr (w0.heap.size + 1) 33 (pL b) ∧ Blk wr (w0.heap.size + 2) 33 (pL zeros) ∧ Blk wr Q 33 (pL m)) (fun _ i _ => 16 - (intOf i).toNat)
  case atStart => exact ⟨0, 0, a, zeros, by omega, rfl, rfl, Dif.start a b HA.out.1 HA.out.2.2.1, ⟨rfl, rfl, fun j => by rw [zeros_get]; decide⟩, H4.out.1, H4.out.2.1, H4.out.2.2.1, H4.out.2.2.2.1, H4.out.2.2.2.2⟩
  case round =>
    obtain ⟨k, c, l, m, hk, rfl, rfl, hd, hh, hg, h1, h2, h3, h4⟩ := hrel
    by_cases hlt : k < 16
    · have i0 : (k : Int) < 16 := by omega
      have ll := hd.len
      have la := HA.out.2.2.1
      have lb := HA.out.2.2.2.1
      have c0 := cell h1 k (by omega)
      have c1 := cell h2 k (by omega)
      have c2 := cell h4 k (by have := hh.1; omega)
      have va := of_whole HA.out.1 k
      have vb := of_whole HA.out.2.1 k
      have vc := hd.bor
      have hn := hd.next hlt HA.out.2.1 HA.out.1 lb la
      rw [hd.rest k (Nat.le_refl _)] at hn
      obtain ⟨x, hx⟩ : ∃ x, x = a.getD k 0 + 65536 - b.getD k 0 - c := ⟨_, rfl⟩
      rw [← hx] at hn
      have hhn := hh.next (x := x % 65536) hlt ll (by omega)
      have f0 := h4.free k
      have fd := (h4.grown (gb_drewN (gb_refl wr none) 0) (by simp)).free k
      have hbd := h4.grown (gb_drew (gb_refl wr none)) (by simp)
      have f1 := hbd.free k
      have hbit := and_part x (by omega)
      have hxl : x < 131072 := by omega
      have hst := set hbd k (x % 65536)
      have hgs := gb_set_new (gb_drew hg) (p := ⟨Q, k, none⟩) (by show w0.heap.size ≤ Q; omega) (.int .u64 ((x % 65536 : Nat) : Int))
      have ho := fun (B : Nat) (L : List Nat) (hB : Q ≠ B) (h : Blk wr B 33 (pL L)) => (h.grown (gb_drew (gb_refl wr none)) (by simp)).other (a := ⟨Q, k, none⟩) hB (.int .u64 ((x % 65536 : Nat) : Int))
      have o1 := ho _ _ (by omega) h1
      have o2 := ho _ _ (by omega) h2
      have o3 := ho _ _ (by omega) h3
      rw [show ((x % 65536 : Nat) : Int) = (x : Int) % 65536 by omega] at hst hgs o1 o2 o3
      have HI := Lib.hid (And.intro hn (And.intro hhn (And.intro hgs (And.intro o1 (And.intro o2 (And.intro o3 hst)))))); clear hn hhn hgs o1 o2 o3 hst hd hh hg h1 h2 h3 h4 hbd ho fd
      have e1 : ((a.getD k 0 : Nat) : Int) + 65536 - ((b.getD k 0 : Nat) : Int) - (c : Int) = (x : Int) := by omega
      clear hx
      generalize a.getD k 0 = ak at *
      generalize b.getD k 0 = bk at *
      go_wp2
      go_region
      go_wp2
      exact ⟨⟨k + 1, 1 - x / 65536, _, _, by omega, by congr 1, by congr 1; omega, HI.out.1, HI.out.2.1, HI.out.2.2.1, HI.out.2.2.2.1, HI.out.2.2.2.2.1, HI.out.2.2.2.2.2.1, HI.out.2.2.2.2.2.2⟩, by simp [intOf]; omega⟩
    · obtain rfl : k = 16 := by omega
      have hm := hh.done hd.len
      have hle := hd.done HA.out.2.2.2.1 HA.out.2.2.1 HA.out.2.2.2.2
      have hl := hh.1
      have hlow : ∀ j, m.getD j 0 < 2 ^ 60 := fun j => Nat.lt_trans (hh.2.2 j) (by decide)
      have ha16 := V_lt a HA.out.1
      rw [HA.out.2.2.1] at ha16
      have hv : V m = V a - V b := by rw [hm, hle]; exact V_parts 16 _ (Nat.lt_of_le_of_lt (Nat.sub_le _ _) ha16)
      have HV := Lib.hid hv
      clear hm hle hd hh hv ha16
      go_upto_region 11 with (fail)
      refine wp_region_lit ?_
      refine Fg.wpl_value (v := nV (m)) (w' := wr) rfl (ld rfl rfl (h4) (hl) rfl rfl) ?_
      simp only [Act.put, List.setIfInBounds_toArray, List.set_cons_succ, List.set_cons_zero]
      refine Fg.wpl_call rfl (Fg.run_call (vs := #[nV (m)]) rfl rfl (by simp only [List.map_toArray, List.map_cons, List.map_nil, Act.eval]; rfl) (Fg.run_enter Tryd.func36 (by kernel_rfl) (by kernel_rfl))) ?_
      refine (whole_any m wr hl hlow).mono ?_
      rintro e wF ⟨rfl, gwF⟩
      refine ⟨_, rfl, ?_⟩
      simp only [Act.put, List.setIfInBounds_toArray, List.set_cons_succ, List.set_cons_zero]
      obtain ⟨rN, hrN⟩ : ∃ r : List Nat, r = num (V m) := ⟨_, rfl⟩
      have hrl : rN.length = 16 := by rw [hrN]; exact num_len _
      rw [← hrN]
      have HRN := Lib.hid hrN; clear hrN
      refine Fg.wpl_skip rfl rfl (st (l := rN) rfl rfl rfl ((h3).grown gwF (by simp)) (by rw [pL_len]; rfl) hrl rfl) ?_
      refine wpList_nil ?_
      have hR := stored (l := rN) ((h3).grown gwF (by simp)) (by rw [pL_len]; rfl) hrl
      have gR := gb_setCells_new (cs := pL rN) (gb_trans (hg) gwF) (B := w0.heap.size + 2) (by omega) 0
      revert gR; revert hR
      generalize World.setCells _ _ _ _ = wR
      intro hR gR
      go_wp2_with fail
      exact bodyPost_ret (v := nV rN) (res Tryd.results17 _ _ (w0.heap.size + 2) rN rfl hR hrl) rfl ⟨by rw [HRN.out, HV.out], gR⟩
theorem num_V' {v : Nat} (h : v < V Pp) : V (num v) = v := by
  rw [num_V]
  rw [Pp_V] at h
  exact Nat.mod_eq_of_lt h
set_option maxRecDepth 100000 in
set_option maxHeartbeats 4000000 in
theorem sub_lt (a b : List Nat) (w0 : World) (ha : Whole a) (hb : Whole b) (la : a.length = 16) (lb : b.length = 16) (hlt : V a < V b) (hbp : V b < V Pp) : Calls Tryd.prog 17 #[nV a, nV b] w0 (Out (num (V a + V Pp - V b)) w0) := by
  obtain ⟨hd, hdc⟩ : ∃ d, d = decide (V a < V b) := ⟨_, rfl⟩
  have hdf : hd = true := by rw [hdc]; exact decide_eq_true hlt
  subst hdf
  obtain ⟨d, hde⟩ : ∃ d, d = num (V b - V a) := ⟨_, rfl⟩
  have hdw : Whole d := by rw [hde]; exact num_whole _
  have hdl : d.length = 16 := by rw [hde]; exact num_len _
  have hdv : V d = V b - V a := by rw [hde]; exact num_V' (Nat.lt_of_le_of_lt (Nat.sub_le _ _) hbp)
  obtain ⟨r, hre⟩ : ∃ r, r = num (V Pp - V d) := ⟨_, rfl⟩
  have hrr : r = num (V a + V Pp - V b) := by rw [hre, hdv]; congr 1; omega
  have hrl : r.length = 16 := by rw [hre]; exact num_len _
  have c1 := fun w => sub_ge b a w hb ha lb la (Nat.le_of_lt hlt)
  have c2 := fun w => sub_ge Pp d w Pp_whole hdw Pp_len hdl (by rw [hdv]; exact Nat.le_trans (Nat.sub_le _ _) (Nat.le_of_lt hbp))
  rw [← hde] at c1
  rw [← hre] at c2
  have HC := Lib.hid (And.intro c1 (And.intro c2 hrr)); clear c1 c2 hrr hre hde hdv hdw hdl
  unfold nV
  go_enter Tryd.func17, Tryd.ntmps17
  go_upto_region 1 with (fail)
  show Code.wp _ _ _ _ (((w0.alloc (.cells (pL a).toArray 33)).alloc (.cells (pL b).toArray 33)).alloc (.cells (pL zeros).toArray 33))
  obtain ⟨b1, b2, b3, g4⟩ := three w0 a b
  revert g4; revert b3; revert b2; revert b1
  generalize (((w0.alloc (.cells (pL a).toArray 33)).alloc (.cells (pL b).toArray 33)).alloc (.cells (pL zeros).toArray 33)) = w2
  intro b1 b2 b3 g4
  refine wp_region_lit ?_
  refine Fg.wpl_value (v := nV (a)) (w' := w2) rfl (ld rfl rfl (b1) (la) rfl rfl) ?_
  simp only [Act.put, List.setIfInBounds_toArray, List.set_cons_succ, List.set_cons_zero]
  refine Fg.wpl_value (v := nV (b)) (w' := w2) rfl (ld rfl rfl (b2) (lb) rfl rfl) ?_
  simp only [Act.put, List.setIfInBounds_toArray, List.set_cons_succ, List.set_cons_zero]
  refine Fg.wpl_call rfl (Fg.run_call (vs := #[nV a, nV b]) rfl rfl (by simp only [List.map_toArray, List.map_cons, List.map_nil, Act.eval]; rfl) (Fg.run_enter Tryd.func38 (by kernel_rfl) (by kernel_rfl))) ?_
  refine (less_any a b w2 ha hb la lb).mono ?_
  rintro e w3 ⟨rfl, gw3⟩
  refine ⟨_, rfl, ?_⟩
  simp only [Act.put, List.setIfInBounds_toArray, List.set_cons_succ, List.set_cons_zero]
  rw [← hdc]
  refine wpList_nil ?_
  have H3 := Lib.hid (And.intro (gb_trans g4 gw3) (And.intro (b1.grown gw3 (by simp)) (And.intro (b2.grown gw3 (by simp)) (b3.grown gw3 (by simp))))); clear b1 b2 b3 g4 gw3 hdc
  go_upto_region 2 with (fail)
  refine Fg.region_t [] [.any, .any, .any, .any, .any, .any, .any, .any, .any, .any, .any, .any, .val (nV Pp), .val (nV b), .val (nV a), .val (nV d), .val (nV r)] w3 5 (gb_refl _ _) (by kernel_rfl) (by kernel_rfl) (by kernel_rfl) (by kernel_rfl) (by decide) (by kernel_rfl) ?_ ?_
  · refine ⟨Fg.cT rfl (by decide) fun ac w h => ?_, ?_⟩
    · refine ⟨39, #[], wants_none rfl, Fg.run_call rfl rfl (by simp only [List.map_toArray, List.map_nil]) (Fg.run_enter Tryd.func39 (by kernel_rfl) (by kernel_rfl)), ?_⟩
      exact (p_any w).mono fun _ _ ⟨he, hg⟩ => ⟨_, he, hg, rfl⟩
    refine ⟨Fg.vT rfl (by decide) fun ac w h => ?_, ?_⟩
    · have e3 : ac.tmps.getD 3 undef = Value.pointer (some ⟨w0.heap.size + 1, 0, none⟩) := h.rest 3 (by kernel_rfl)
      refine ⟨nV b, w, wants_none rfl, ?_, gb_refl _ _, rfl⟩
      exact ld rfl e3 (H3.out.2.2.1.grown h.base (by simp)) lb rfl rfl
    refine ⟨Fg.vT rfl (by decide) fun ac w h => ?_, ?_⟩
    · have e2 : ac.tmps.getD 2 undef = Value.pointer (some ⟨w0.heap.size, 0, none⟩) := h.rest 2 (by kernel_rfl)
      refine ⟨nV a, w, wants_none rfl, ?_, gb_refl _ _, rfl⟩
      exact ld rfl e2 (H3.out.2.1.grown h.base (by simp)) la rfl rfl
    refine ⟨Fg.cT rfl (by decide) fun ac w h => ?_, ?_⟩
    · have e13 : ac.tmps.getD 13 undef = nV b := h.dep 13 (by kernel_rfl)
      have e14 : ac.tmps.getD 14 undef = nV a := h.dep 14 (by kernel_rfl)
      refine ⟨17, #[nV b, nV a], wants_none rfl, Fg.run_call rfl rfl (by simp only [List.map_toArray, List.map_cons, List.map_nil, Act.eval, e13, e14]) (Fg.run_enter Tryd.func17 (by kernel_rfl) (by kernel_rfl)), ?_⟩
      exact (HC.out.1 w).mono fun _ _ ⟨he, hg⟩ => ⟨_, he, hg, rfl⟩
    refine ⟨Fg.cT rfl (by decide) fun ac w h => ?_, ?_⟩
    · have e12 : ac.tmps.getD 12 undef = nV Pp := h.dep 12 (by kernel_rfl)
      have e15 : ac.tmps.getD 15 undef = nV d := h.dep 15 (by kernel_rfl)
      refine ⟨17, #[nV Pp, nV d], wants_none rfl, Fg.run_call rfl rfl (by simp only [List.map_toArray, List.map_cons, List.map_nil, Act.eval, e12, e15]) (Fg.run_enter Tryd.func17 (by kernel_rfl) (by kernel_rfl)), ?_⟩
      exact (HC.out.2.1 w).mono fun _ _ ⟨he, hg⟩ => ⟨_, he, hg, rfl⟩
    trivial
  · intro aq wq hB hsz hdf hrest hslots hpt
    obtain ⟨u12, e12⟩ : ∃ u, aq.tmps.getD 12 undef = u := ⟨_, rfl⟩
    obtain ⟨u13, e13⟩ : ∃ u, aq.tmps.getD 13 undef = u := ⟨_, rfl⟩
    obtain ⟨u14, e14⟩ : ∃ u, aq.tmps.getD 14 undef = u := ⟨_, rfl⟩
    obtain ⟨u15, e15⟩ : ∃ u, aq.tmps.getD 15 undef = u := ⟨_, rfl⟩
    have e16 : aq.tmps.getD 16 undef = nV r := hslots 16 (by kernel_rfl)
    obtain rfl := Fg.frame_is (a := aq) (vs := [Value.agg (pL a).toArray, Value.agg (pL b).toArray, Value.pointer (some ⟨w0.heap.size, 0, none⟩), Value.pointer (some ⟨w0.heap.size + 1, 0, none⟩), Value.pointer (some ⟨w0.heap.size + 2, 0, none⟩), undef, undef, undef, undef, nV a, nV b, Value.bool true, u12, u13, u14, u15, nV r, undef, undef, undef, undef, undef, undef, undef, undef, undef, undef, undef, undef, undef, undef, undef, undef, undef, undef, undef, undef, undef, undef, undef]) hsz ⟨hrest 0 (by kernel_rfl), hrest 1 (by kernel_rfl), hrest 2 (by kernel_rfl), hrest 3 (by kernel_rfl), hrest 4 (by kernel_rfl), hrest 5 (by kernel_rfl), hrest 6 (by kernel_rfl), hrest 7 (by kernel_rfl), hrest 8 (by kernel_rfl), hrest 9 (by kernel_rfl), hrest 10 (by kernel_rfl), hrest 11 (by kernel_rfl), e12, e13, e14, e15, e16, hrest 17 (by kernel_rfl), hrest 18 (by kernel_rfl), hrest 19 (by kernel_rfl), hrest 20 (by kernel_rfl), hrest 21 (by kernel_rfl), hrest 22 (by kernel_rfl), hrest 23 (by kernel_rfl), hrest 24 (by kernel_rfl), hrest 25 (by kernel_rfl), hrest 26 (by kernel_rfl), hrest 27 (by kernel_rfl), hrest 28 (by kernel_rfl), hrest 29 (by kernel_rfl), hrest 30 (by kernel_rfl), hrest 31 (by kernel_rfl), hrest 32 (by kernel_rfl), hrest 33 (by kernel_rfl), hrest 34 (by kernel_rfl), hrest 35 (by kernel_rfl), hrest 36 (by kernel_rfl), hrest 37 (by kernel_rfl), hrest 38 (by kernel_rfl), hrest 39 (by kernel_rfl), trivial⟩ hdf
    clear hsz hdf hrest hslots hpt e12 e13 e14 e15 e16
    refine Fg.wpl_skip rfl rfl (st (l := r) rfl rfl rfl (H3.out.2.2.2.grown hB (by simp)) (by rw [pL_len]; rfl) (hrl) rfl) ?_
    refine wpList_nil ?_
    have hR := stored (l := r) (H3.out.2.2.2.grown hB (by simp)) (by rw [pL_len]; rfl) (hrl)
    have gR := gb_setCells_new (cs := pL r) (gb_trans H3.out.1 hB) (B := w0.heap.size + 2) (by omega) 0
    revert gR; revert hR
    generalize World.setCells _ _ _ _ = wR
    intro hR gR
    go_wp2_with fail
    exact bodyPost_ret (v := nV r) (res Tryd.results17 _ _ (w0.heap.size + 2) r rfl hR (hrl)) rfl ⟨by rw [HC.out.2.2], gR⟩
end Nr
end Go.Proofs.YtjgfhihngbhljaaDoor
