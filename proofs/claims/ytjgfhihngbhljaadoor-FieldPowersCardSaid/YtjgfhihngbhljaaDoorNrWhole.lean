/- The document's field: whole. -/
import Derived.Test.YtjgfhihngbhljaaDoorNrLessP
import Derived.WalkKit
import Derived.Test.YtjgfhihngbhljaaDoorFlowTB
namespace Go.Proofs.YtjgfhihngbhljaaDoor
open Go.RowKit Ns
namespace Nr
/-- behind k passes over parts whose value is v -/
structure Pass (v k : Nat) (l : List Nat) : Prop where
  len : l.length = 16
  val : V l = it k v
  low : ∀ j, l.getD j 0 < 2 ^ 60
  whole : 4 ≤ k → Whole l
theorem Pass.start {l : List Nat} (hl : l.length = 16) (h : ∀ j, l.getD j 0 < 2 ^ 60) : Pass (V l) 0 l := ⟨hl, rfl, h, fun h => by omega⟩
theorem V_317 {l : List Nat} (hl : l.length = 16) (h : ∀ j, l.getD j 0 < 2 ^ 60) : V l < 2 ^ 317 := by
  have := V_big l (fun d hd => by
    obtain ⟨i, hi, rfl⟩ := List.getElem_of_mem hd
    have := h i
    rwa [List.getD_eq_getElem?_getD, List.getElem?_eq_getElem hi] at this)
  rw [hl] at this
  omega
/-- what a pass of carries leaves -/
def Done (l0 l : List Nat) (i : Nat) : Prop := (i ≤ 15 → Amid l0 l i) ∧ (i = 16 → Parts (Ns.next (V l0)) l ∧ (V l0 < 65536 ^ 16 → Whole l))
theorem Pass.next {v k : Nat} {l0 l : List Nat} (hv : v < 2 ^ 317) (h : Pass v k l0) (hd : Done l0 l 16) : Pass v (k + 1) l := by
  obtain ⟨hp, hw⟩ := hd.2 rfl
  refine ⟨hp.len, by rw [hp.val, h.val]; rfl, fun j => ?_, fun hk => hw ?_⟩
  · rcases Nat.eq_zero_or_pos j with rfl | hj
    · exact hp.low
    · have := hp.high j hj; omega
  · rw [h.val]
    obtain ⟨m, rfl⟩ : ∃ m, k = m + 3 := ⟨k - 3, by omega⟩
    exact it_small m v hv
theorem Done.len {l0 l : List Nat} {i : Nat} (h : Done l0 l i) (hi : i ≤ 16) : l.length = 16 := by
  rcases Nat.lt_or_ge i 16 with h1 | h1
  · exact (h.1 (by omega)).len
  · exact (h.2 (by omega)).1.len
theorem less_mod {v : Nat} (h : V Pp ≤ v) : (v - V Pp) % (2 ^ 255 - 19) = v % (2 ^ 255 - 19) := by
  rw [Pp_V] at h ⊢
  exact (Nat.mod_eq_sub_mod h).symm
theorem less_p {v : Nat} (h : V Pp ≤ v) : v - V Pp < v := by
  have := Pp_V
  omega
def wordOf : Option Value → Nat
  | some (.int _ n) => n.toNat
  | _ => 0
/-- the value that a block holds -/
def valAt (w : World) (B : Nat) : Nat := V ((List.range 16).map fun i => wordOf (w.cell? ⟨B, i, none⟩))
theorem valAt_is {w : World} {B : Nat} {l : List Nat} (h : Blk w B 33 (pL l)) (hl : l.length = 16) : valAt w B = V l := by
  unfold valAt
  congr 1
  apply List.ext_getElem
  · simp [hl]
  · intro i h1 h2
    simp only [List.getElem_map, List.getElem_range]
    rw [cell h i h2]
    show ((l.getD i 0 : Nat) : Int).toNat = _
    rw [Int.toNat_natCast, List.getD_eq_getElem?_getD, List.getElem?_eq_getElem h2]
    rfl
set_option maxRecDepth 100000 in
set_option maxHeartbeats 8000000 in
theorem whole_any (t : List Nat) (w0 : World) (lt : t.length = 16) (ht : ∀ j, t.getD j 0 < 2 ^ 60) :
    Calls Tryd.prog 36 #[nV t] w0 (Out (num (V t)) w0) := by
  have hv := V_317 lt ht
  have hP0 := Pass.start lt ht
  clear ht
  unfold nV
  go_enter Tryd.func36, Tryd.ntmps36
  go_upto_region 1 with (fail)
  show Code.wp _ _ _ _ ((w0.alloc (.cells (pL t).toArray 33)).alloc (.cells (pL zeros).toArray 33))
  have bA := (new (w := w0) rfl t).alloc (.cells (pL zeros).toArray 33)
  have bB := new (w := w0.alloc (.cells (pL t).toArray 33)) (B := w0.heap.size + 1) (by simp) zeros
  have g2 := gb_alloc (gb_alloc (gb_refl w0 none) (.cells (pL t).toArray 33)) (.cells (pL zeros).toArray 33)
  revert bA bB g2
  generalize (w0.alloc (.cells (pL t).toArray 33)).alloc (.cells (pL zeros).toArray 33) = w2
  intro bA bB g2
  obtain ⟨v, hve⟩ : ∃ v, v = V t := ⟨_, rfl⟩
  rw [← hve] at hv hP0 ⊢
  have HV := Lib.hid (And.intro hv (And.intro hP0 (And.intro g2 (And.intro bA bB)))); clear hv hP0 g2 bA bB
  have HVe := Lib.hid hve; clear hve
  have hlen : (pL t).length = 16 := by rw [pL_len, lt]
  clear lt
  go_wp2
  go_loopw [3] (fun i wr => ∃ (k : Nat) (l : List Nat), k ≤ 6 ∧ i = .int .i64 k ∧ Pass v k l ∧ w0.grownBy wr none ∧ Blk wr w0.heap.size 33 (pL l) ∧ Blk wr (w0.heap.size + 1) 33 (pL zeros)) (fun i _ => 6 - (intOf i).toNat)
  case atStart => exact ⟨0, t, by omega, rfl, HV.out.2.1, HV.out.2.2.1, HV.out.2.2.2.1, HV.out.2.2.2.2⟩
  case round =>
    obtain ⟨k, l0, hk, rfl, hp, hg, hb, hz⟩ := hrel
    by_cases hlt : k < 6
    · have i0 : (k : Int) < 6 := by omega
      have HI := Lib.hid (And.intro hp (And.intro hg (And.intro hb hz))); clear hp hg hb hz
      go_wp2
      go_loopw [4] (fun iv wr => ∃ (i : Nat) (l : List Nat), i ≤ 16 ∧ iv = .int .i64 i ∧ Done l0 l i ∧ w0.grownBy wr none ∧ Blk wr w0.heap.size 33 (pL l) ∧ Blk wr (w0.heap.size + 1) 33 (pL zeros)) (fun iv _ => 16 - (intOf iv).toNat)
      case atStart => exact ⟨0, l0, by omega, rfl, ⟨fun _ => Amid.start l0 HI.out.1.len, fun h => by omega⟩, HI.out.2.1, HI.out.2.2.1, HI.out.2.2.2⟩
      case round =>
        obtain ⟨i, l, hi, rfl, hd, hg, hb, hz⟩ := hrel
        by_cases h16 : i < 16
        · have i1 : (i : Int) < 16 := by omega
          have ha := hd.1 (by omega)
          have hl := ha.len
          have c0 := cell hb i (by omega)
          have f0 := hb.free i
          have vh := ha.here
          have vl := HI.out.1.low i
          obtain ⟨x, hx⟩ : ∃ x, x = l.getD i 0 := ⟨_, rfl⟩
          have hbit := and_part x (by omega)
          by_cases h15 : i < 15
          · have i2 : (i : Int) < 15 := by omega
            have c1 := cell hb (i + 1) (by omega)
            have f1 := (set hb i (x % 65536)).free (i + 1)
            have vn := HI.out.1.low (i + 1)
            have hr := ha.rest (i + 1) (by omega)
            have hn := ha.next h15 vl
            have hs := set (set hb i (x % 65536)) (i + 1) (l.getD (i + 1) 0 + x / 65536)
            have hgs := gb_set_new (gb_set_new hg (p := ⟨w0.heap.size, i, none⟩) (Nat.le_refl _) (.int .u64 ((x % 65536 : Nat) : Int))) (p := ⟨w0.heap.size, i + 1, none⟩) (Nat.le_refl _) (.int .u64 ((l.getD (i + 1) 0 + x / 65536 : Nat) : Int))
            have hzs := (hz.other (a := ⟨w0.heap.size, i, none⟩) (by show w0.heap.size ≠ w0.heap.size + 1; omega) (.int .u64 ((x % 65536 : Nat) : Int))).other (a := ⟨w0.heap.size, i + 1, none⟩) (by show w0.heap.size ≠ w0.heap.size + 1; omega) (.int .u64 ((l.getD (i + 1) 0 + x / 65536 : Nat) : Int))
            rw [← hx] at hn c0
            rw [show ((x % 65536 : Nat) : Int) = (x : Int) % 65536 by omega, show ((l.getD (i + 1) 0 + x / 65536 : Nat) : Int) = ((l.getD (i + 1) 0 : Nat) : Int) + (x : Int) / 65536 by omega] at hs hgs hzs
            rw [show ((x % 65536 : Nat) : Int) = (x : Int) % 65536 by omega] at f1
            have hyl : l.getD (i + 1) 0 < 2 ^ 60 := by omega
            have HJ := Lib.hid (And.intro hn (And.intro hgs (And.intro hs hzs))); clear hn hgs hs hzs hd ha hg hb hz hr vn
            have hxl : x < 2 ^ 60 + 2 ^ 45 := by omega
            clear vh vl hx
            generalize l.getD (i + 1) 0 = y at *
            go_wp2
            exact ⟨⟨i + 1, _, by omega, by congr 1, ⟨fun _ => HJ.out.1, fun h => by omega⟩, HJ.out.2.1, HJ.out.2.2.1, HJ.out.2.2.2⟩, by simp [intOf]; omega⟩
          · obtain rfl : i = 15 := by omega
            have c1 := cell hb 0 (by omega)
            have f1 := (set hb 15 (x % 65536)).free 0
            have vy := ha.done 0 (by omega)
            have hn := ha.last vl
            have h0 : (l.set 15 (l.getD 15 0 % 65536)).getD 0 0 = l.getD 0 0 := by rw [set_getD _ _ _ _ (by omega), if_neg (by omega)]
            obtain ⟨y, hy⟩ : ∃ y, y = l.getD 0 0 := ⟨_, rfl⟩
            have hs := set (set hb 15 (x % 65536)) 0 (y + 38 * (x / 65536))
            have hgs := gb_set_new (gb_set_new hg (p := ⟨w0.heap.size, 15, none⟩) (Nat.le_refl _) (.int .u64 ((x % 65536 : Nat) : Int))) (p := ⟨w0.heap.size, 0, none⟩) (Nat.le_refl _) (.int .u64 ((y + 38 * (x / 65536) : Nat) : Int))
            have hzs := (hz.other (a := ⟨w0.heap.size, 15, none⟩) (by show w0.heap.size ≠ w0.heap.size + 1; omega) (.int .u64 ((x % 65536 : Nat) : Int))).other (a := ⟨w0.heap.size, 0, none⟩) (by show w0.heap.size ≠ w0.heap.size + 1; omega) (.int .u64 ((y + 38 * (x / 65536) : Nat) : Int))
            rw [h0, ← hx, ← hy] at hn
            rw [← hx] at c0
            rw [← hy] at c1
            rw [show ((x % 65536 : Nat) : Int) = (x : Int) % 65536 by omega, show ((y + 38 * (x / 65536) : Nat) : Int) = (y : Int) + 38 * ((x : Int) / 65536) by omega] at hs hgs hzs
            rw [show ((x % 65536 : Nat) : Int) = (x : Int) % 65536 by omega] at f1
            have hyl : y < 65536 := by omega
            have hxl : x < 2 ^ 60 + 2 ^ 45 := by omega
            have HJ := Lib.hid (And.intro hn (And.intro hgs (And.intro hs hzs))); clear hn hgs hs hzs hd ha hg hb hz
            clear vh vl hx hy vy h0
            go_wp2
            exact ⟨⟨16, _, by omega, by congr 1, ⟨fun h => by omega, fun _ => HJ.out.1⟩, HJ.out.2.1, HJ.out.2.2.1, HJ.out.2.2.2⟩, by simp [intOf]⟩
        · obtain rfl : i = 16 := by omega
          have hn := HI.out.1.next HV.out.1 hd
          have HJ := Lib.hid (And.intro hn (And.intro hg (And.intro hb hz))); clear hn hd hg hb hz
          go_wp2
          go_roundw
          case rel => exact ⟨k + 1, l, by omega, by go_num, HJ.out.1, HJ.out.2.1, HJ.out.2.2.1, HJ.out.2.2.2⟩
          case measure => simp [intOf]; omega
    · obtain rfl : k = 6 := by omega
      have hw := hp.whole (by omega)
      have hl := hp.len
      have hval := hp.val
      have hm : V l0 % (2 ^ 255 - 19) = v % (2 ^ 255 - 19) := by rw [hval]; exact it_mod 6 v
      have hlt2 := V_lt l0 hw
      rw [hl] at hlt2
      have HI := Lib.hid (And.intro hg (And.intro hb hz)); clear hg hb hz hp hval
      have HW := Lib.hid (And.intro hw (And.intro hl (And.intro hm hlt2))); clear hw hl hm hlt2 hlt
      go_wp2
      go_loopw [] (fun wr => ∃ (l : List Nat), Hid (Whole l ∧ l.length = 16 ∧ V l % (2 ^ 255 - 19) = v % (2 ^ 255 - 19) ∧ V l < 65536 ^ 16) ∧ w0.grownBy wr none ∧ Blk wr w0.heap.size 33 (pL l) ∧ Blk wr (w0.heap.size + 1) 33 (pL zeros)) (fun wr => valAt wr w0.heap.size)
      case atStart => exact ⟨l0, HW, HI.out.1, HI.out.2.1, HI.out.2.2⟩
      case round =>
        clear HI HW
        obtain ⟨l, HW, hg, hb, hz⟩ := hrel
        have hl := HW.out.2.1
        have HI := Lib.hid (And.intro hg (And.intro hb hz)); clear hg hb hz
        obtain ⟨hd, hdc⟩ : ∃ b, b = decide (V l < V Pp) := ⟨_, rfl⟩
        go_upto_region 12 with (fail)
        refine Fg.region_t [] [.any, .any, .any, .any, .any, .any, .any, .any, .any, .any, .any, .any, .any, .any, .any, .any, .any, .any, .any, .any, .any, .any, .any, .any, .any, .any, .any, .any, .any, .any, .any, .any, .any, .any, .any, .any, .any, .any, .any, .any, .any, .val (nV l), .val (nV Pp)] wr 2 (gb_refl _ _) (by kernel_rfl) (by kernel_rfl) (by kernel_rfl) (by kernel_rfl) (by decide) (by kernel_rfl) ?_ ?_
        · refine ⟨Fg.vT rfl (by decide) fun ac w h => ?_, ?_⟩
          · have e1 : ac.tmps.getD 1 undef = Value.pointer (some ⟨w0.heap.size, 0, none⟩) := h.rest 1 (by kernel_rfl)
            refine ⟨nV l, w, wants_none rfl, ?_, gb_refl _ _, rfl⟩
            exact ld rfl e1 (HI.out.2.1.grown h.base (by simp)) hl rfl rfl
          refine ⟨Fg.cT rfl (by decide) fun ac w h => ?_, ?_⟩
          · refine ⟨39, #[], wants_none rfl, Fg.run_call rfl rfl (by simp only [List.map_toArray, List.map_nil]) (Fg.run_enter Tryd.func39 (by kernel_rfl) (by kernel_rfl)), ?_⟩
            exact (p_any w).mono fun _ _ ⟨he, hg⟩ => ⟨_, he, hg, rfl⟩
          trivial
        · intro aq wq hB hsz hdf hrest hslots hpt
          have e41 : aq.tmps.getD 41 undef = nV l := hslots 41 (by kernel_rfl)
          have e42 : aq.tmps.getD 42 undef = nV Pp := hslots 42 (by kernel_rfl)
          obtain rfl := Fg.frame_is (a := aq) (vs := [Value.agg (pL t).toArray, Value.pointer (some ⟨w0.heap.size, 0, none⟩), Value.pointer (some ⟨w0.heap.size + 1, 0, none⟩), Value.int .i64 ((6 : Nat) : Int), u4, u5, Value.int .i64 ((6 : Nat) : Int), Value.bool false, u8, u9, u10, u11, u12, u13, u14, u15, u16, u17, u18, u19, u20, u21, u22, u23, u24, u25, u26, u27, u28, u29, u30, u31, u32, u33, u34, u35, u36, u37, u38, u39, u40, nV l, nV Pp, u43, u44, u45, u46, undef]) hsz ⟨hrest 0 (by kernel_rfl), hrest 1 (by kernel_rfl), hrest 2 (by kernel_rfl), hrest 3 (by kernel_rfl), hrest 4 (by kernel_rfl), hrest 5 (by kernel_rfl), hrest 6 (by kernel_rfl), hrest 7 (by kernel_rfl), hrest 8 (by kernel_rfl), hrest 9 (by kernel_rfl), hrest 10 (by kernel_rfl), hrest 11 (by kernel_rfl), hrest 12 (by kernel_rfl), hrest 13 (by kernel_rfl), hrest 14 (by kernel_rfl), hrest 15 (by kernel_rfl), hrest 16 (by kernel_rfl), hrest 17 (by kernel_rfl), hrest 18 (by kernel_rfl), hrest 19 (by kernel_rfl), hrest 20 (by kernel_rfl), hrest 21 (by kernel_rfl), hrest 22 (by kernel_rfl), hrest 23 (by kernel_rfl), hrest 24 (by kernel_rfl), hrest 25 (by kernel_rfl), hrest 26 (by kernel_rfl), hrest 27 (by kernel_rfl), hrest 28 (by kernel_rfl), hrest 29 (by kernel_rfl), hrest 30 (by kernel_rfl), hrest 31 (by kernel_rfl), hrest 32 (by kernel_rfl), hrest 33 (by kernel_rfl), hrest 34 (by kernel_rfl), hrest 35 (by kernel_rfl), hrest 36 (by kernel_rfl), hrest 37 (by kernel_rfl), hrest 38 (by kernel_rfl), hrest 39 (by kernel_rfl), hrest 40 (by kernel_rfl), e41, e42, hrest 43 (by kernel_rfl), hrest 44 (by kernel_rfl), hrest 45 (by kernel_rfl), hrest 46 (by kernel_rfl), hrest 47 (by kernel_rfl), trivial⟩ hdf
          clear hsz hdf hrest hslots hpt e41 e42
          refine Fg.wpl_call rfl (Fg.run_call (vs := #[nV l, nV Pp]) rfl rfl (by simp only [List.map_toArray, List.map_cons, List.map_nil, Act.eval]; rfl) (Fg.run_enter Tryd.func38 (by kernel_rfl) (by kernel_rfl))) ?_
          refine (less_any l Pp wq HW.out.1 Pp_whole hl Pp_len).mono ?_
          rintro e w5 ⟨rfl, gw5⟩
          refine ⟨_, rfl, ?_⟩
          simp only [Act.put, List.setIfInBounds_toArray, List.set_cons_succ, List.set_cons_zero]
          rw [← hdc]
          have HB := Lib.hid (gb_trans hB gw5); clear hB gw5
          cases hd with
          | true =>
            have hlt : V l < V Pp := of_decide_eq_true hdc.symm
            have e : l = num v := by
              rw [num_of l HW.out.1 hl (by rw [← Pp_V]; exact hlt)]
              exact num_congr HW.out.2.2.1
            refine Fg.wpl_value (v := .bool false) (w' := w5) rfl (by go_simp) ?_
            refine wpList_nil ?_
            simp only [Act.put, List.setIfInBounds_toArray, List.set_cons_succ, List.set_cons_zero]
            have hb := HI.out.2.1.grown HB.out (by simp)
            have hz := HI.out.2.2.grown HB.out (by simp)
            have hg := gb_trans HI.out.1 HB.out
            rw [e] at hb
            have hnl : (num v).length = 16 := by rw [← e]; exact hl
            have zz := hz.lt
            clear e hdc
            go_upto_region 14 with (fail)
            obtain ⟨rN, hrN⟩ : ∃ r : List Nat, r = num v := ⟨_, rfl⟩
            have hrl : rN.length = 16 := by rw [hrN]; exact hnl
            have hrb := hb
            rw [← hrN] at hrb
            have HRN := Lib.hid hrN; clear hrN
            refine wp_region_lit ?_
            refine Fg.wpl_value (v := nV rN) (w' := _) rfl (ld rfl rfl hrb hrl rfl rfl) ?_
            simp only [Act.put, List.setIfInBounds_toArray, List.set_cons_succ, List.set_cons_zero]
            refine Fg.wpl_skip rfl rfl (st (l := rN) rfl rfl rfl (hz) (by rw [pL_len]; rfl) (hrl) rfl) ?_
            refine wpList_nil ?_
            have hR := stored (l := rN) (hz) (by rw [pL_len]; rfl) (hrl)
            have gR := gb_setCells_new (cs := pL rN) (hg) (B := w0.heap.size + 1) (by omega) 0
            revert gR; revert hR
            generalize World.setCells _ _ _ _ = wR
            intro hR gR
            go_wp2_with fail
            exact bodyPost_ret (v := nV rN) (res Tryd.results36 _ _ (w0.heap.size + 1) rN rfl hR (hrl)) rfl ⟨by rw [HRN.out, HVe.out], gR⟩
          | false =>
            have hge : V Pp ≤ V l := by have := of_decide_eq_false hdc.symm; omega
            refine Fg.wpl_value (v := .bool true) (w' := w5) rfl (by go_simp) ?_
            refine wpList_nil ?_
            simp only [Act.put, List.setIfInBounds_toArray, List.set_cons_succ, List.set_cons_zero]
            go_upto_region 13 with (fail)
            refine wp_region_lit ?_
            refine Fg.wpl_value (v := nV (l)) (w' := w5) rfl (ld rfl rfl (HI.out.2.1.grown HB.out (by simp)) (hl) rfl rfl) ?_
            simp only [Act.put, List.setIfInBounds_toArray, List.set_cons_succ, List.set_cons_zero]
            refine Fg.wpl_call rfl (Fg.run_call (vs := #[nV l]) rfl rfl (by simp only [List.map_toArray, List.map_cons, List.map_nil, Act.eval]; rfl) (Fg.run_enter Tryd.func52 (by kernel_rfl) (by kernel_rfl))) ?_
            refine (lessP_any l w5 HW.out.1 hl hge).mono ?_
            rintro e w6 ⟨rfl, gw6⟩
            refine ⟨_, rfl, ?_⟩
            simp only [Act.put, List.setIfInBounds_toArray, List.set_cons_succ, List.set_cons_zero]
            have hb6 := (HI.out.2.1.grown HB.out (by simp)).grown gw6 (by simp)
            have hlt := HW.out.2.2.2
            obtain ⟨r, hr⟩ : ∃ r, r = parts 16 (V l - V Pp) := ⟨_, rfl⟩
            have hrw : Whole r := by rw [hr]; exact parts_whole 16 _
            have hrl : r.length = 16 := by rw [hr]; exact parts16_len _
            have hrv : V r = V l - V Pp := by rw [hr]; exact V_parts 16 _ (by omega)
            have hm := less_mod hge
            rw [← hrv] at hm
            have hrd : V r < V l := by rw [hrv]; exact less_p hge
            have HQ := Lib.hid (And.intro hrw (And.intro hrl (And.intro (hm.trans HW.out.2.2.1) (Nat.lt_trans hrd hlt))))
            rw [← hr]
            clear hr hrw hm hrv hlt hge
            refine Fg.wpl_skip rfl rfl (st (l := r) rfl rfl rfl hb6 (by rw [pL_len, hl]) hrl rfl) ?_
            refine wpList_nil ?_
            have hR := stored (l := r) hb6 (by rw [pL_len, hl]) hrl
            have gR := gb_setCells_new (cs := pL r) (gb_trans (gb_trans HI.out.1 HB.out) gw6) (B := w0.heap.size) (Nat.le_refl _) 0
            have hzR := ((HI.out.2.2.grown HB.out (by simp)).grown gw6 (by simp)).setCells_other (cs := pL r) (C := w0.heap.size) 0 (by omega)
            have hvw := valAt_is HI.out.2.1 hl
            revert hzR; revert hR; revert gR
            generalize World.setCells _ _ _ _ = wR
            intro gR hR hzR
            have hvR := valAt_is hR hrl
            have HR := Lib.hid (And.intro gR (And.intro hR hzR))
            have hdec : Hid (valAt wR w0.heap.size < valAt wr w0.heap.size) := Lib.hid (by rw [hvR, hvw]; exact hrd)
            clear gR hR hzR hvR hvw hb6 gw6 hdc hrd
            go_wp2
            go_roundw
            case rel => exact ⟨r, HQ, HR.out.1, HR.out.2.1, HR.out.2.2⟩
            case measure => exact hdec.out
end Nr
end Go.Proofs.YtjgfhihngbhljaaDoor
