/- The document's field: lessP. -/
import Derived.Test.YtjgfhihngbhljaaDoorNrLess
import Derived.Laws.BitsAllLaws
namespace Go.Proofs.YtjgfhihngbhljaaDoor
open Go.RowKit Ns
namespace Nr
theorem and_part (x : Nat) (h : x < 18446744073709551616) : bits .and .u64 (x : Int) 65535 = ((x % 65536 : Nat) : Int) := by
  have e : (65535 : Int) = ((65535 : Nat) : Int) := rfl
  rw [e, u64_and_nat _ _ (by omega) (by decide), show (65535 : Nat) = 2 ^ 16 - 1 from rfl, Nat.and_two_pow_sub_one_eq_mod]
theorem and_one64 (x : Nat) (h : x < 18446744073709551616) : bits .and .u64 (x : Int) 1 = ((x % 2 : Nat) : Int) := by
  have e : (1 : Int) = ((1 : Nat) : Int) := rfl
  rw [e, u64_and_nat _ _ (by omega) (by decide), show (1 : Nat) = 2 ^ 1 - 1 from rfl, Nat.and_two_pow_sub_one_eq_mod]
/-- amid a difference: the first i parts are told -/
structure Dif (t p l : List Nat) (i b : Nat) : Prop where
  len : l.length = 16
  whole : Whole l
  rest : ∀ j, i ≤ j → l.getD j 0 = t.getD j 0
  bor : b ≤ 1
  eq : V (l.take i) + V (p.take i) = V (t.take i) + 65536 ^ i * b
theorem Dif.start (t p : List Nat) (ht : Whole t) (lt : t.length = 16) : Dif t p t 0 0 := ⟨lt, ht, fun _ _ => rfl, by omega, by simp [V]⟩
theorem take_set (l : List Nat) (i x : Nat) (h : i < l.length) : (l.set i x).take (i + 1) = l.take i ++ [x] := by
  rw [List.take_succ_eq_append_getElem (by rw [List.length_set]; exact h), List.getElem_set_self, List.take_set_of_le (Nat.le_refl _)]
theorem V_take_set (l : List Nat) (i x : Nat) (h : i < l.length) : V ((l.set i x).take (i + 1)) = V (l.take i) + 65536 ^ i * x := by
  rw [take_set l i x h, V_append, List.length_take, Nat.min_eq_left (by omega)]
  simp [V]
/-- the next part -/
theorem Dif.next {t p l : List Nat} {i b : Nat} (h : Dif t p l i b) (hi : i < 16) (hp : Whole p) (ht : Whole t) (lp : p.length = 16) (lt : t.length = 16) :
    Dif t p (l.set i ((l.getD i 0 + 65536 - p.getD i 0 - b) % 65536)) (i + 1) (1 - (l.getD i 0 + 65536 - p.getD i 0 - b) / 65536) := by
  have ha := of_whole ht i
  rw [← h.rest i (Nat.le_refl _)] at ha
  obtain ⟨h1, h2, h3, h4⟩ := sub_part (l.getD i 0) (p.getD i 0) b ha (of_whole hp i) h.bor
  have hl := h.len
  refine ⟨by rw [List.length_set]; exact hl, whole_of fun j hj => ?_, fun j hj => ?_, h3, ?_⟩
  · rw [set_getD _ _ _ _ (by omega)]
    split
    · exact h2
    · exact of_whole h.whole j
  · rw [set_getD _ _ _ _ (by omega), if_neg (by omega)]
    exact h.rest j (by omega)
  · rw [V_take_set l i _ (by omega), V_take_succ p i (by omega), V_take_succ t i (by omega), ← h.rest i (Nat.le_refl _)]
    exact sub_next h.eq h4
theorem Dif.done {t p l : List Nat} {b : Nat} (h : Dif t p l 16 b) (lp : p.length = 16) (lt : t.length = 16) (hge : V p ≤ V t) : l = parts 16 (V t - V p) := by
  have he := h.eq
  rw [List.take_of_length_le (Nat.le_of_eq h.len), List.take_of_length_le (Nat.le_of_eq lp), List.take_of_length_le (Nat.le_of_eq lt)] at he
  have hlt := V_lt l h.whole
  rw [h.len] at hlt
  rw [← (sub_end hlt he hge).1, ← h.len]
  exact (parts_V l h.whole).symm
theorem parts16_len (v : Nat) : (parts 16 v).length = 16 := parts_len 16 v
set_option maxRecDepth 100000 in
set_option maxHeartbeats 4000000 in
theorem lessP_any (t : List Nat) (w : World) (ht : Whole t) (lt : t.length = 16) (hge : V Pp ≤ V t) :
    Calls Tryd.prog 52 #[nV t] w (Out (parts 16 (V t - V Pp)) w) := by
  unfold nV
  go_enter Tryd.func52, Tryd.ntmps52
  go_upto_region 1 with (fail)
  show Code.wp _ _ _ _ ((w.alloc (.cells (pL t).toArray 33)).alloc (.cells (pL zeros).toArray 33))
  have bA := (new (w := w) rfl t).alloc (.cells (pL zeros).toArray 33)
  have bB := new (w := w.alloc (.cells (pL t).toArray 33)) (B := w.heap.size + 1) (by simp) zeros
  have g2 := gb_alloc (gb_alloc (gb_refl w none) (.cells (pL t).toArray 33)) (.cells (pL zeros).toArray 33)
  revert bA bB g2
  generalize (w.alloc (.cells (pL t).toArray 33)).alloc (.cells (pL zeros).toArray 33) = w2
  intro bA bB g2
  refine wp_region_lit ?_
  refine Fg.wpl_call rfl (Fg.run_call (vs := #[]) rfl rfl (by simp only [List.map_toArray, List.map_nil]) (Fg.run_enter Tryd.func39 (by kernel_rfl) (by kernel_rfl))) ?_
  refine (p_any w2).mono ?_
  rintro e w3 ⟨rfl, gw3⟩
  refine ⟨_, rfl, ?_⟩
  simp only [Act.put, List.setIfInBounds_toArray, List.set_cons_succ, List.set_cons_zero]
  refine Fg.wpl_value (v := .pointer (some ⟨w3.heap.size, 0, none⟩)) (w' := w3.alloc (.cells (pL zeros).toArray 33)) rfl (by go_simp; rfl) ?_
  simp only [Act.put, List.setIfInBounds_toArray, List.set_cons_succ, List.set_cons_zero]
  refine Fg.wpl_skip rfl rfl (st (l := Pp) rfl rfl rfl (new (w := w3) rfl zeros) rfl (Pp_len) rfl) ?_
  refine wpList_nil ?_
  obtain ⟨hw4, gw4, sw4⟩ := var w3 (Pp) (Pp_len)
  revert hw4 gw4 sw4
  generalize World.setCells _ _ _ _ = w4
  intro hw4 gw4 sw4
  have H4 := Lib.hid (And.intro (gb_trans (gb_trans g2 gw3) gw4) (And.intro ((bA.grown gw3 (by simp)).grown gw4 (by simp)) (And.intro ((bB.grown gw3 (by simp)).grown gw4 (by simp)) hw4)))
  have zA := bA.lt
  have zB := bB.lt
  have z3 := gw3.size
  have z2 := g2.size
  clear bA bB g2 gw3 gw4 hw4
  have hge' := Lib.hid hge; clear hge
  obtain ⟨Q, hQ⟩ : ∃ Q, Q = w3.heap.size := ⟨_, rfl⟩
  rw [← hQ] at H4 sw4 z3 ⊢
  clear hQ
  go_wp2
  go_loopw [4, 5] (fun bv i wr => ∃ (k b : Nat) (l : List Nat), k ≤ 16 ∧ i = .int .i64 k ∧ bv = .int .u64 b ∧ Dif t Pp l k b ∧ w.grownBy wr none ∧ Blk wr w.heap.size 33 (pL l) ∧ Blk wr (w.heap.size + 1) 33 (pL zeros) ∧ Blk wr Q 33 (pL Pp)) (fun _ i _ => 16 - (intOf i).toNat)
  case atStart => exact ⟨0, 0, t, by omega, rfl, rfl, Dif.start t Pp ht lt, H4.out.1, H4.out.2.1, H4.out.2.2.1, H4.out.2.2.2⟩
  case round =>
    obtain ⟨k, b, l, hk, rfl, rfl, hd, hg, hb, hz, hp⟩ := hrel
    by_cases hlt : k < 16
    · have i0 : (k : Int) < 16 := by omega
      have ll := hd.len
      have c0 := cell hb k (by omega)
      have c1 := cell hp k (by rw [Pp_len]; exact hlt)
      have vt := of_whole hd.whole k
      have vp := of_whole Pp_whole k
      have vb := hd.bor
      have hn := hd.next hlt Pp_whole ht Pp_len lt
      obtain ⟨x, hx⟩ : ∃ x, x = l.getD k 0 + 65536 - Pp.getD k 0 - b := ⟨_, rfl⟩
      rw [← hx] at hn
      have hbd := hb.grown (gb_drew (gb_refl wr none)) (by simp)
      have f0 := hbd.free k
      have hbit := and_part x (by omega)
      have ho : x % 65536 < 65536 := by omega
      have hc : x / 65536 ≤ 1 := by omega
      have hs := set hbd k (x % 65536)
      have hgs := gb_set_new (gb_drew hg) (p := ⟨w.heap.size, k, none⟩) (Nat.le_refl _) (.int .u64 ((x % 65536 : Nat) : Int))
      have hzs := (hz.grown (gb_drew (gb_refl wr none)) (by simp)).other (a := ⟨w.heap.size, k, none⟩) (by show w.heap.size ≠ w.heap.size + 1; omega) (.int .u64 ((x % 65536 : Nat) : Int))
      have hps := (hp.grown (gb_drew (gb_refl wr none)) (by simp)).other (a := ⟨w.heap.size, k, none⟩) (by show w.heap.size ≠ Q; omega) (.int .u64 ((x % 65536 : Nat) : Int))
      rw [show ((x % 65536 : Nat) : Int) = (x : Int) % 65536 by omega] at hs hgs hzs hps
      have HI := Lib.hid (And.intro hn (And.intro hgs (And.intro hs (And.intro hzs hps)))); clear hn hs hgs hzs hps hd hg hb hz hp hbd
      generalize l.getD k 0 = tk at *
      generalize Pp.getD k 0 = pk at *
      have e1 : (tk : Int) + 65536 - (pk : Int) - (b : Int) = (x : Int) := by omega
      have HX := Lib.hid hx; clear hx
      go_wp2
      go_region
      go_wp2
      exact ⟨⟨k + 1, 1 - x / 65536, _, by omega, by congr 1, by congr 1; omega, HI.out.1, HI.out.2.1, HI.out.2.2.1, HI.out.2.2.2.1, HI.out.2.2.2.2⟩, by simp [intOf]; omega⟩
    · obtain rfl : k = 16 := by omega
      have he := hd.done Pp_len lt hge'.out
      rw [he] at hb
      go_upto_region 9 with (fail)
      obtain ⟨rN, hrN⟩ : ∃ r : List Nat, r = parts 16 (V t - V Pp) := ⟨_, rfl⟩
      have hrl : rN.length = 16 := by rw [hrN]; exact parts16_len _
      have hrb := hb
      rw [← hrN] at hrb
      have HRN := Lib.hid hrN; clear hrN
      refine wp_region_lit ?_
      refine Fg.wpl_value (v := nV rN) (w' := _) rfl (ld rfl rfl hrb hrl rfl rfl) ?_
      simp only [Act.put, List.setIfInBounds_toArray, List.set_cons_succ, List.set_cons_zero]
      refine Fg.wpl_skip rfl rfl (st (l := rN) rfl rfl rfl (hz) (by rw [pL_len]; rfl) (hrl) rfl) ?_
      refine wpList_nil ?_
      have hR := stored (l := rN) (hz) (by rw [pL_len]; rfl) (hrl)
      have gR := gb_setCells_new (cs := pL rN) (hg) (B := w.heap.size + 1) (by omega) 0
      revert gR; revert hR
      generalize World.setCells _ _ _ _ = wR
      intro hR gR
      go_wp2_with fail
      exact bodyPost_ret (v := nV rN) (res Tryd.results52 _ _ (w.heap.size + 1) rN rfl hR (hrl)) rfl ⟨by rw [HRN.out], gR⟩
end Nr
end Go.Proofs.YtjgfhihngbhljaaDoor
