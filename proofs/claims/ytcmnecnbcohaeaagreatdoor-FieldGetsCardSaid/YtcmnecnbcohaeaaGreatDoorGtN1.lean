/- texts merged, part 1: XNgM XNrPow XNrHalf XNrRootM XNgRead XFgOfBytes XFgGetAny XNgGet XNgLaw XOpen XFeLaid -/
import Derived.Test.YtcmnecnbcohaeaaGreatDoorGtB3
import Derived.Test.YtcmnecnbcohaeaaGreatDoorGtB1
import Derived.Deep.Cut
import Derived.Laws.ResultCell
import Derived.Test.YtcmnecnbcohaeaaGreatDoorGtB4
import Derived.Test.YtcmnecnbcohaeaaGreatDoorGtB5
import Derived.Test.YtcmnecnbcohaeaaGreatDoorChecked
import Derived.ProofKit
import Derived.OpenShut
import Derived.ShutString
import Derived.ChangeOld
import Derived.Deep.DeepHandedRow
import Derived.Lib.LaidTab
import Derived.SizedLaws
import Derived.Test.YtcmnecnbcohaeaaGreatDoorGtB2
import Derived.Test.YtcmnecnbcohaeaaGreatDoorCards
import Derived.Test.YtcmnecnbcohaeaaGreatDoorTie
/- The document's field: bytes, two by two, as a number's parts. -/
namespace Go.Proofs.YtcmnecnbcohaeaaGreatDoor
open Go.RowKit Ns Ow
namespace Nr
def pairN (p : List Nat) (i : Nat) : Nat := p.getD (2 * i) 0 + 256 * p.getD (2 * i + 1) 0
/-- k parts are read -/
def pairL (p : List Nat) (k : Nat) : List Nat := (List.range 16).map fun i => if i < k then pairN p i else 0
theorem pairL_len (p : List Nat) (k : Nat) : (pairL p k).length = 16 := by simp [pairL]
theorem pairL_zero (p : List Nat) : pairL p 0 = zeros := rfl
theorem pairL_get (p : List Nat) (k i : Nat) (hi : i < 16) : (pairL p k).getD i 0 = if i < k then pairN p i else 0 := by
  unfold pairL
  rw [List.getD_eq_getElem?_getD, List.getElem?_map, List.getElem?_range hi]
  rfl
theorem pairL_next (p : List Nat) (k : Nat) (hk : k < 16) : (pairL p k).set k (pairN p k) = pairL p (k + 1) := by
  apply List.ext_getElem
  · rw [List.length_set, pairL_len, pairL_len]
  · intro i h1 h2
    have hi : i < 16 := by rw [pairL_len] at h2; exact h2
    have e1 := pairL_get p (k + 1) i hi
    have e2 := set_getD (pairL p k) k i (pairN p k) (by rw [pairL_len]; exact hk)
    rw [pairL_get p k i hi] at e2
    rw [List.getD_eq_getElem?_getD, List.getElem?_eq_getElem h2] at e1
    rw [List.getD_eq_getElem?_getD, List.getElem?_eq_getElem h1] at e2
    simp only [Option.getD_some] at e1 e2
    rw [e1, e2]
    by_cases h : i = k
    · subst h; simp
    · rw [if_neg h]
      by_cases h3 : i < k
      · rw [if_pos h3, if_pos (by omega)]
      · rw [if_neg h3, if_neg (by omega)]
theorem pairN_lt {p : List Nat} (hb : ∀ i, p.getD i 0 < 256) (i : Nat) : pairN p i < 65536 := by
  have h1 := hb (2 * i); have h2 := hb (2 * i + 1)
  unfold pairN; omega
theorem pairL_whole {p : List Nat} (hb : ∀ i, p.getD i 0 < 256) (k : Nat) : Whole (pairL p k) := by
  refine whole_of fun j hj => ?_
  rw [pairL_get p k j (by rw [pairL_len] at hj; exact hj)]
  split
  · exact pairN_lt hb j
  · decide
theorem V_pairs (p : List Nat) : ∀ k, ((V ((List.range k).map (pairN p)) : Nat) : Int) = Go.Proofs.YtcmnecnbcohaeaaGreatDoor.wordOf (fun i => ((p.getD i 0 : Nat) : Int)) (2 * k)
  | 0 => rfl
  | k + 1 => by
    rw [List.range_succ, List.map_append, V_append, List.length_map, List.length_range, show 2 * (k + 1) = 2 * k + 1 + 1 by omega, Go.Proofs.YtcmnecnbcohaeaaGreatDoor.wordOf, Go.Proofs.YtcmnecnbcohaeaaGreatDoor.wordOf, ← V_pairs p k]
    have e1 : (2 : Int) ^ (8 * (2 * k)) = 65536 ^ k := by rw [show 8 * (2 * k) = 16 * k by omega, Int.pow_mul]; rfl
    have e2 : (2 : Int) ^ (8 * (2 * k + 1)) = 65536 ^ k * 256 := by rw [show 8 * (2 * k + 1) = 16 * k + 8 by omega, Int.pow_add, Int.pow_mul]; rfl
    rw [e1, e2]
    simp only [List.map_cons, List.map_nil, V, pairN]
    simp only [Int.natCast_add, Int.natCast_mul, Int.natCast_pow]
    grind
theorem pairL_full (p : List Nat) : pairL p 16 = (List.range 16).map (pairN p) := by
  unfold pairL
  apply List.map_congr_left
  intro i hi
  rw [if_pos (List.mem_range.1 hi)]
theorem V_pairL (p : List Nat) : ((V (pairL p 16) : Nat) : Int) = Go.Proofs.YtcmnecnbcohaeaaGreatDoor.wordOf (fun i => ((p.getD i 0 : Nat) : Int)) 32 := by rw [pairL_full]; exact V_pairs p 16
theorem byL_pairs {p : List Nat} (hb : ∀ i, p.getD i 0 < 256) : ∀ k, 2 * k ≤ p.length → byL ((List.range k).map (pairN p)) = p.take (2 * k)
  | 0, _ => rfl
  | k + 1, h => by
    have h1 := hb (2 * k); have h2 := hb (2 * k + 1)
    rw [List.range_succ, List.map_append, byL_append, byL_pairs hb k (by omega), show 2 * (k + 1) = 2 * k + 1 + 1 by omega, List.take_succ_eq_append_getElem (i := 2 * k + 1) (by omega), List.take_succ_eq_append_getElem (i := 2 * k) (by omega), List.append_assoc]
    rw [List.getD_eq_getElem?_getD, List.getElem?_eq_getElem (by omega)] at h1 h2
    simp only [Option.getD_some] at h1 h2
    have g1 : p.getD (2 * k) 0 = p[2 * k] := by rw [List.getD_eq_getElem?_getD, List.getElem?_eq_getElem (by omega)]; rfl
    have g2 : p.getD (2 * k + 1) 0 = p[2 * k + 1] := by rw [List.getD_eq_getElem?_getD, List.getElem?_eq_getElem (by omega)]; rfl
    congr 1
    simp only [List.map_cons, List.map_nil, byL, pairN, g1, g2, List.cons_append, List.nil_append]
    rw [show (p[2 * k] + 256 * p[2 * k + 1]) % 256 = p[2 * k] by omega, show (p[2 * k] + 256 * p[2 * k + 1]) / 256 % 256 = p[2 * k + 1] by omega]
theorem byL_pairL {p : List Nat} (hb : ∀ i, p.getD i 0 < 256) (hl : p.length = 32) : byL (pairL p 16) = p := by
  rw [pairL_full, byL_pairs hb 16 (by omega), List.take_of_length_le (by omega)]
/-- what Read tells -/
def readV (p : List Nat) : Nat := V (pairL p 16)
def readB (p : List Nat) : Bool := decide (p.length = 32) && decide (readV p < Fe.P)
theorem readV_word (p : List Nat) : ((readV p : Nat) : Int) = Go.Proofs.YtcmnecnbcohaeaaGreatDoor.wordOf (fun i => ((p.getD i 0 : Nat) : Int)) 32 := V_pairL p
theorem read_num {p : List Nat} (hb : ∀ i, p.getD i 0 < 256) (h : readV p < Fe.P) : num (readV p) = pairL p 16 :=
  (num_of _ (pairL_whole hb 16) (pairL_len p 16) (by rw [← P_is]; exact h)).symm
end Nr
end Go.Proofs.YtcmnecnbcohaeaaGreatDoor

/- The document's field: power, Invert. -/
namespace Go.Proofs.YtcmnecnbcohaeaaGreatDoor
open Go.RowKit Ns
namespace Nr
theorem V_num_mod (u : Nat) : V (num u) % (2 ^ 255 - 19) = u % (2 ^ 255 - 19) := by rw [num_V, Nat.mod_mod]
theorem num_mul_l (u y : Nat) : num (V (num u) * y) = num (u * y) := num_congr (by rw [Nat.mul_mod, V_num_mod, ← Nat.mul_mod])
theorem num_sq (u : Nat) : num (V (num u) * V (num u)) = num (u * u) := num_congr (by rw [Nat.mul_mod, V_num_mod, ← Nat.mul_mod])
set_option maxRecDepth 100000 in
set_option maxHeartbeats 4000000 in
theorem power_any (a b : List Nat) (w0 : World) (ha : Whole a) (hb : Whole b) (la : a.length = 16) (lb : b.length = 16) : Calls Tryz.prog 82 #[nV a, nV b] w0 (Out (num (V a ^ V b)) w0) := by
  have hb16 := V_lt b hb
  rw [lb] at hb16
  unfold nV
  go_enter Tryz.func82, Tryz.ntmps82
  go_upto_region 1 with (fail)
  show Code.wp _ _ _ _ (((w0.alloc (.cells (pL a).toArray 31)).alloc (.cells (pL b).toArray 31)).alloc (.cells (pL zeros).toArray 31))
  obtain ⟨b1, b2, b3, g4⟩ := three w0 a b
  revert g4; revert b3; revert b2; revert b1
  generalize (((w0.alloc (.cells (pL a).toArray 31)).alloc (.cells (pL b).toArray 31)).alloc (.cells (pL zeros).toArray 31)) = w2
  intro b1 b2 b3 g4
  refine wp_region_lit ?_
  refine Fg.wpl_call rfl (Fg.run_call (vs := #[.int .u64 1]) rfl rfl (by simp only [List.map_toArray, List.map_cons, List.map_nil, Act.eval] <;> rfl) (Fg.run_enter Tryz.func42 (by kernel_rfl) (by kernel_rfl))) ?_
  refine (small_any 1 w2 (by decide)).mono ?_
  rintro e w3 ⟨rfl, gw3⟩
  refine ⟨_, rfl, ?_⟩
  simp only [Act.put, List.setIfInBounds_toArray, List.set_cons_succ, List.set_cons_zero]
  refine Fg.wpl_value (v := .pointer (some ⟨w3.heap.size, 0, none⟩)) (w' := w3.alloc (.cells (pL zeros).toArray 31)) rfl (by go_simp; rfl) ?_
  simp only [Act.put, List.setIfInBounds_toArray, List.set_cons_succ, List.set_cons_zero]
  refine Fg.wpl_skip rfl rfl (st (l := num 1) rfl rfl rfl (new (w := w3) rfl zeros) rfl (num_len _) rfl) ?_
  refine wpList_nil ?_
  obtain ⟨hw4, gw4, sw4⟩ := var w3 (num 1) (num_len _)
  revert hw4 gw4 sw4
  generalize World.setCells _ _ _ _ = w4
  intro hw4 gw4 sw4
  have H4 := Lib.hid (And.intro (gb_trans (gb_trans g4 gw3) gw4) (And.intro ((b1.grown gw3 (by simp)).grown gw4 (by simp)) (And.intro ((b2.grown gw3 (by simp)).grown gw4 (by simp)) (And.intro ((b3.grown gw3 (by simp)).grown gw4 (by simp)) hw4))))
  have z3 := b3.lt
  have z4 := gw3.size
  clear b1 b2 b3 g4 gw3 gw4 hw4
  obtain ⟨Q, hQ⟩ : ∃ Q, Q = w3.heap.size := ⟨_, rfl⟩
  rw [← hQ] at H4 sw4 z4 ⊢
  clear hQ
  have HA := Lib.hid (And.intro ha (And.intro hb (And.intro la (And.intro lb hb16)))); clear ha hb la lb hb16
  go_wp2
  go_loopw [6] (fun i wr => ∃ (q : Int) (k : Nat) (l : List Nat), q + 1 = k ∧ k ≤ 256 ∧ i = .int .i64 q ∧ l = num (V a ^ (V b / 2 ^ k)) ∧ w0.grownBy wr none ∧ Blk wr w0.heap.size 31 (pL a) ∧ Blk wr (w0.heap.size + 1) 31 (pL b) ∧ Blk wr (w0.heap.size + 2) 31 (pL zeros) ∧ Blk wr Q 31 (pL l)) (fun i _ => (intOf i + 1).toNat)
  case atStart => exact ⟨255, 256, num 1, by decide, by omega, rfl, by rw [pow_begin _ _ (Nat.lt_of_lt_of_eq HA.out.2.2.2.2 (by decide))], H4.out.1, H4.out.2.1, H4.out.2.2.1, H4.out.2.2.2.1, H4.out.2.2.2.2⟩
  case round =>
    obtain ⟨q, k, l, hq, hk, rfl, hl, hg, h1, h2, h3, h4⟩ := hrel
    by_cases h0 : 0 ≤ q
    · obtain ⟨i, rfl⟩ := Int.eq_ofNat_of_zero_le h0
      obtain rfl : k = i + 1 := by omega
      have hll : l.length = 16 := by rw [hl]; exact num_len _
      have hlw : Whole l := by rw [hl]; exact num_whole _
      have hps := pow_step (V a) (V b) i
      have hvb := V_bit b i HA.out.2.1 (by have := HA.out.2.2.2.1; omega)
      obtain ⟨u, hu⟩ : ∃ u, u = V a ^ (V b / 2 ^ (i + 1)) := ⟨_, rfl⟩
      rw [← hu] at hl hps
      obtain ⟨s, hs⟩ : ∃ s, s = num (u * u) := ⟨_, rfl⟩
      have hsl : s.length = 16 := by rw [hs]; exact num_len _
      have hsw : Whole s := by rw [hs]; exact num_whole _
      have hm : num (V l * V l) = s := by rw [hl, num_sq, hs]
      have hm2 : num (V s * V a) = num (u * u * V a) := by rw [hs, num_mul_l]
      have cM : ∀ w, Calls Tryz.prog 41 #[nV l, nV l] w (Out s w) := fun w => hm ▸ mul_any l l w hlw hlw hll hll
      have cM2 : ∀ w, Calls Tryz.prog 41 #[nV s, nV a] w (Out (num (u * u * V a)) w) := fun w => hm2 ▸ mul_any s a w hsw HA.out.1 hsl HA.out.2.2.1
      have HC := Lib.hid (And.intro cM (And.intro cM2 (And.intro hps (And.intro hvb hs)))); clear cM cM2 hps hvb hm hm2 hs hl hlw hu
      clear hsw
      go_upto_region 5 with (fail)
      refine wp_region_lit ?_
      refine Fg.wpl_value (v := nV (l)) (w' := wr) rfl (ld rfl rfl (h4) (hll) rfl rfl) ?_
      simp only [Act.put, List.setIfInBounds_toArray, List.set_cons_succ, List.set_cons_zero]
      refine Fg.wpl_value (v := nV (l)) (w' := wr) rfl (ld rfl rfl (h4) (hll) rfl rfl) ?_
      simp only [Act.put, List.setIfInBounds_toArray, List.set_cons_succ, List.set_cons_zero]
      refine Fg.wpl_call rfl (Fg.run_call (vs := #[nV l, nV l]) rfl rfl (by simp only [List.map_toArray, List.map_cons, List.map_nil, Act.eval] <;> rfl) (Fg.run_enter Tryz.func41 (by kernel_rfl) (by kernel_rfl))) ?_
      refine (HC.out.1 wr).mono ?_
      rintro e w5 ⟨rfl, gw5⟩
      refine ⟨_, rfl, ?_⟩
      simp only [Act.put, List.setIfInBounds_toArray, List.set_cons_succ, List.set_cons_zero]
      refine Fg.wpl_skip rfl rfl (st (l := s) rfl rfl rfl (h4.grown gw5 (by simp)) (by rw [pL_len, hll]) hsl rfl) ?_
      refine wpList_nil ?_
      have hR := stored (l := s) (h4.grown gw5 (by simp)) (by rw [pL_len, hll]) hsl
      have gR := gb_setCells_new (cs := pL s) (gb_trans hg gw5) (B := Q) (by omega) 0
      have o1 := (h1.grown gw5 (by simp)).setCells_other (cs := pL s) (C := Q) 0 (by omega)
      have o2 := (h2.grown gw5 (by simp)).setCells_other (cs := pL s) (C := Q) 0 (by omega)
      have o3 := (h3.grown gw5 (by simp)).setCells_other (cs := pL s) (C := Q) 0 (by omega)
      clear hg h1 h2 h3 h4 gw5
      revert o3; revert o2; revert o1; revert gR; revert hR
      generalize World.setCells _ _ _ _ = w6
      intro hR gR o1 o2 o3
      have c0 := cell o2 (i / 16) (by have := HA.out.2.2.2.1; omega)
      have v0 := of_whole HA.out.2.1 (i / 16)
      have hvb := HC.out.2.2.2.1
      generalize b.getD (i / 16) 0 = x at c0 v0 hvb
      have i1 : (i : Int) < 256 := by omega
      have hx2 : x / 2 ^ (i % 16) < 18446744073709551616 := Nat.lt_of_le_of_lt (Nat.div_le_self _ _) (by omega)
      have hbit := and_one64 (x / 2 ^ (i % 16)) hx2
      have ecast : ((x / 2 ^ (i % 16) : Nat) : Int) = (x : Int) / 2 ^ (i % 16) := by rw [Int.natCast_ediv, Int.natCast_pow]; rfl
      rw [ecast, ← hvb] at hbit
      have H6 := Lib.hid (And.intro gR (And.intro o1 (And.intro o2 (And.intro o3 hR)))); clear gR o1 o2 o3 hR hx2 ecast hvb
      have hps := HC.out.2.2.1
      rcases Nat.mod_two_eq_zero_or_one (V b / 2 ^ i) with h | h
      · rw [h] at hbit hps
        rw [Nat.pow_zero, Nat.mul_one] at hps
        have HP := Lib.hid hps; clear hps h
        have hbit : bits .and .u64 ((x : Int) / 2 ^ (i % 16)) 1 = 0 := hbit
        go_wp2
        go_roundw
        case rel => exact ⟨(i : Int) - 1, i, s, by omega, by omega, by congr 1, by rw [HP.out]; exact HC.out.2.2.2.2, H6.out.1, H6.out.2.1, H6.out.2.2.1, H6.out.2.2.2.1, H6.out.2.2.2.2⟩
        case measure => simp [intOf]
      · rw [h] at hbit hps
        rw [Nat.pow_one] at hps
        have HP := Lib.hid hps; clear hps h
        have hbit : bits .and .u64 ((x : Int) / 2 ^ (i % 16)) 1 = 1 := hbit
        go_upto_region 7 with (fail)
        refine wp_region_lit ?_
        refine Fg.wpl_value (v := nV (s)) (w' := w6) rfl (ld rfl rfl (H6.out.2.2.2.2) (hsl) rfl rfl) ?_
        simp only [Act.put, List.setIfInBounds_toArray, List.set_cons_succ, List.set_cons_zero]
        refine Fg.wpl_value (v := nV (a)) (w' := w6) rfl (ld rfl rfl (H6.out.2.1) (HA.out.2.2.1) rfl rfl) ?_
        simp only [Act.put, List.setIfInBounds_toArray, List.set_cons_succ, List.set_cons_zero]
        refine Fg.wpl_call rfl (Fg.run_call (vs := #[nV s, nV a]) rfl rfl (by simp only [List.map_toArray, List.map_cons, List.map_nil, Act.eval] <;> rfl) (Fg.run_enter Tryz.func41 (by kernel_rfl) (by kernel_rfl))) ?_
        refine (HC.out.2.1 w6).mono ?_
        rintro e w7 ⟨rfl, gw7⟩
        refine ⟨_, rfl, ?_⟩
        simp only [Act.put, List.setIfInBounds_toArray, List.set_cons_succ, List.set_cons_zero]
        obtain ⟨t, ht⟩ : ∃ t, t = num (u * u * V a) := ⟨_, rfl⟩
        have htl : t.length = 16 := by rw [ht]; exact num_len _
        rw [← ht]
        refine Fg.wpl_skip rfl rfl (st (l := t) rfl rfl rfl (H6.out.2.2.2.2.grown gw7 (by simp)) (by rw [pL_len, hsl]) htl rfl) ?_
        refine wpList_nil ?_
        have hR := stored (l := t) (H6.out.2.2.2.2.grown gw7 (by simp)) (by rw [pL_len, hsl]) htl
        have gR := gb_setCells_new (cs := pL t) (gb_trans H6.out.1 gw7) (B := Q) (by omega) 0
        have o1 := (H6.out.2.1.grown gw7 (by simp)).setCells_other (cs := pL t) (C := Q) 0 (by omega)
        have o2 := (H6.out.2.2.1.grown gw7 (by simp)).setCells_other (cs := pL t) (C := Q) 0 (by omega)
        have o3 := (H6.out.2.2.2.1.grown gw7 (by simp)).setCells_other (cs := pL t) (C := Q) 0 (by omega)
        clear gw7
        revert o3; revert o2; revert o1; revert gR; revert hR
        generalize World.setCells _ _ _ _ = w8
        intro hR gR o1 o2 o3
        have H8 := Lib.hid (And.intro gR (And.intro o1 (And.intro o2 (And.intro o3 hR)))); clear gR o1 o2 o3 hR
        have HTt := Lib.hid ht; clear ht
        go_wp2
        go_roundw
        case rel => exact ⟨(i : Int) - 1, i, t, by omega, by omega, by congr 1, by rw [HP.out]; exact HTt.out, H8.out.1, H8.out.2.1, H8.out.2.2.1, H8.out.2.2.2.1, H8.out.2.2.2.2⟩
        case measure => simp [intOf]
    · obtain rfl : k = 0 := by omega
      obtain rfl : q = -1 := by omega
      have hll : l.length = 16 := by rw [hl]; exact num_len _
      rw [Nat.pow_zero, Nat.div_one] at hl
      have HL := Lib.hid hl; clear hl
      go_upto_region 8 with (fail)
      obtain ⟨rN, hrN⟩ : ∃ r : List Nat, r = l := ⟨_, rfl⟩
      have hrl : rN.length = 16 := by rw [hrN]; exact hll
      have hrb := h4
      rw [← hrN] at hrb
      have HRN := Lib.hid hrN; clear hrN
      refine wp_region_lit ?_
      refine Fg.wpl_value (v := nV rN) (w' := _) rfl (ld rfl rfl hrb hrl rfl rfl) ?_
      simp only [Act.put, List.setIfInBounds_toArray, List.set_cons_succ, List.set_cons_zero]
      refine Fg.wpl_skip rfl rfl (st (l := rN) rfl rfl rfl (h3) (by rw [pL_len]; rfl) (hrl) rfl) ?_
      refine wpList_nil ?_
      have hR := stored (l := rN) (h3) (by rw [pL_len]; rfl) (hrl)
      have gR := gb_setCells_new (cs := pL rN) (hg) (B := w0.heap.size + 2) (by omega) 0
      revert gR; revert hR
      generalize World.setCells _ _ _ _ = wR
      intro hR gR
      go_wp2_with fail
      exact bodyPost_ret (v := nV rN) (res Tryz.results82 _ _ (w0.heap.size + 2) rN rfl hR (hrl)) rfl ⟨by rw [HRN.out, HL.out], gR⟩
/-- p less two -/
def Pm2 : List Nat := Pp.set 0 65515
theorem Pm2_V : V Pm2 = 2 ^ 255 - 21 := by decide
theorem Pm2_whole : Whole Pm2 := by unfold Whole Pm2; decide
set_option maxRecDepth 100000 in
set_option maxHeartbeats 2000000 in
theorem invert_any (a : List Nat) (w0 : World) (ha : Whole a) (la : a.length = 16) : Calls Tryz.prog 46 #[nV a] w0 (Out (num (V a ^ (2 ^ 255 - 21))) w0) := by
  have cP := fun w => power_any a Pm2 w ha Pm2_whole la rfl
  rw [Pm2_V] at cP
  obtain ⟨r, hr⟩ : ∃ r, r = num (V a ^ (2 ^ 255 - 21)) := ⟨_, rfl⟩
  rw [← hr] at cP ⊢
  have hrl : r.length = 16 := by rw [hr]; exact num_len _
  have HC := Lib.hid cP; clear cP hr
  unfold nV
  go_enter Tryz.func46, Tryz.ntmps46
  go_upto_region 1 with (fail)
  show Code.wp _ _ _ _ ((w0.alloc (.cells (pL a).toArray 31)).alloc (.cells (pL zeros).toArray 31))
  have bA := (new (w := w0) rfl a).alloc (.cells (pL zeros).toArray 31)
  have bB := new (w := w0.alloc (.cells (pL a).toArray 31)) (B := w0.heap.size + 1) (by simp) zeros
  have g2 := gb_alloc (gb_alloc (gb_refl w0 none) (.cells (pL a).toArray 31)) (.cells (pL zeros).toArray 31)
  revert g2; revert bB; revert bA
  generalize (w0.alloc (.cells (pL a).toArray 31)).alloc (.cells (pL zeros).toArray 31) = w2
  intro bA bB g2
  refine wp_region_lit ?_
  refine Fg.wpl_call rfl (Fg.run_call (vs := #[]) rfl rfl (by simp only [List.map_toArray, List.map_nil]) (Fg.run_enter Tryz.func28 (by kernel_rfl) (by kernel_rfl))) ?_
  refine (p_any w2).mono ?_
  rintro e w3 ⟨rfl, gw3⟩
  refine ⟨_, rfl, ?_⟩
  simp only [Act.put, List.setIfInBounds_toArray, List.set_cons_succ, List.set_cons_zero]
  refine Fg.wpl_value (v := .pointer (some ⟨w3.heap.size, 0, none⟩)) (w' := w3.alloc (.cells (pL zeros).toArray 31)) rfl (by go_simp; rfl) ?_
  simp only [Act.put, List.setIfInBounds_toArray, List.set_cons_succ, List.set_cons_zero]
  refine Fg.wpl_skip rfl rfl (st (l := Pp) rfl rfl rfl (new (w := w3) rfl zeros) rfl (Pp_len) rfl) ?_
  refine wpList_nil ?_
  obtain ⟨hw4, gw4, sw4⟩ := var w3 (Pp) (Pp_len)
  revert hw4 gw4 sw4
  generalize World.setCells _ _ _ _ = w4
  intro hw4 gw4 sw4
  have z2 := bB.lt
  have z3 := gw3.size
  have b1 := (bA.grown gw3 (by simp)).grown gw4 (by simp)
  have b3 := (bB.grown gw3 (by simp)).grown gw4 (by simp)
  have g4 := gb_trans (gb_trans g2 gw3) gw4
  clear bA bB g2 gw3 gw4
  obtain ⟨Q, hQ⟩ : ∃ Q, Q = w3.heap.size := ⟨_, rfl⟩
  rw [← hQ] at hw4 sw4 z3 ⊢
  clear hQ
  have c0 : w4.cell? ⟨Q, 0, none⟩ = some (.int .u64 65517) := cell hw4 0 (by decide)
  have f0 := hw4.free 0
  have q4 : Blk (w4.setCell ⟨Q, 0, none⟩ (.int .u64 65515)) Q 31 (pL Pm2) := set hw4 0 65515
  have q1 := b1.other (a := ⟨Q, 0, none⟩) (by show Q ≠ w0.heap.size; omega) (.int .u64 65515)
  have q3 := b3.other (a := ⟨Q, 0, none⟩) (by show Q ≠ w0.heap.size + 1; omega) (.int .u64 65515)
  have qg := gb_set_new g4 (p := ⟨Q, 0, none⟩) (by show w0.heap.size ≤ Q; omega) (.int .u64 65515)
  have H4 := Lib.hid (And.intro qg (And.intro q1 (And.intro q3 q4))); clear qg q1 q3 q4 b1 b3 g4 hw4
  go_upto_region 3 with (fail)
  obtain ⟨W5, hW5⟩ : ∃ W5, W5 = w4.setCell ⟨Q, 0, none⟩ (.int .u64 65515) := ⟨_, rfl⟩
  rw [← hW5] at H4 ⊢
  clear hW5 c0 f0
  refine wp_region_lit ?_
  refine Fg.wpl_value (v := nV (a)) (w' := W5) rfl (ld rfl rfl (H4.out.2.1) (la) rfl rfl) ?_
  simp only [Act.put, List.setIfInBounds_toArray, List.set_cons_succ, List.set_cons_zero]
  refine Fg.wpl_value (v := nV (Pm2)) (w' := W5) rfl (ld rfl rfl (H4.out.2.2.2) (rfl) rfl rfl) ?_
  simp only [Act.put, List.setIfInBounds_toArray, List.set_cons_succ, List.set_cons_zero]
  refine Fg.wpl_call rfl (Fg.run_call (vs := #[nV a, nV Pm2]) rfl rfl (by simp only [List.map_toArray, List.map_cons, List.map_nil, Act.eval] <;> rfl) (Fg.run_enter Tryz.func82 (by kernel_rfl) (by kernel_rfl))) ?_
  refine (HC.out W5).mono ?_
  rintro e w6 ⟨rfl, gw6⟩
  refine ⟨_, rfl, ?_⟩
  simp only [Act.put, List.setIfInBounds_toArray, List.set_cons_succ, List.set_cons_zero]
  refine Fg.wpl_skip rfl rfl (st (l := r) rfl rfl rfl (H4.out.2.2.1.grown gw6 (by simp)) (by rw [pL_len]; rfl) (hrl) rfl) ?_
  refine wpList_nil ?_
  have hR := stored (l := r) (H4.out.2.2.1.grown gw6 (by simp)) (by rw [pL_len]; rfl) (hrl)
  have gR := gb_setCells_new (cs := pL r) (gb_trans H4.out.1 gw6) (B := w0.heap.size + 1) (by omega) 0
  revert gR; revert hR
  generalize World.setCells _ _ _ _ = wR
  intro hR gR
  go_wp2_with fail
  exact bodyPost_ret (v := nV r) (res Tryz.results46 _ _ (w0.heap.size + 1) r rfl hR (hrl)) rfl ⟨by rw [(rfl : r = r)], gR⟩
end Nr
end Go.Proofs.YtcmnecnbcohaeaaGreatDoor

/- The document's field: half. -/
namespace Go.Proofs.YtcmnecnbcohaeaaGreatDoor
open Go.RowKit Ns
namespace Nr
/-- halves -/
def halfs : List Nat → List Nat
  | [] => []
  | d :: r => (d / 2 + 32768 * (r.getD 0 0 % 2)) :: halfs r
theorem V_mod2 (l : List Nat) : V l % 2 = l.getD 0 0 % 2 := by
  cases l with
  | nil => rfl
  | cons d r => simp only [V, List.getD_cons_zero]; omega
theorem V_halfs (l : List Nat) : V (halfs l) = V l / 2 := by
  induction l with
  | nil => rfl
  | cons d r ih =>
    have := V_mod2 r
    simp only [halfs, V, ih]
    omega
theorem halfs_len (l : List Nat) : (halfs l).length = l.length := by
  induction l with
  | nil => rfl
  | cons d r ih => simp [halfs, ih]
theorem halfs_get (l : List Nat) (i : Nat) (h : i < l.length) : (halfs l).getD i 0 = l.getD i 0 / 2 + 32768 * (l.getD (i + 1) 0 % 2) := by
  induction l generalizing i with
  | nil => simp at h
  | cons d r ih =>
    cases i with
    | zero => simp [halfs]
    | succ i => simpa [halfs] using ih i (by simpa using h)
theorem halfs_whole {l : List Nat} (h : Whole l) : Whole (halfs l) := whole_of fun j hj => by
  rw [halfs_len] at hj
  rw [halfs_get l j hj]
  have := of_whole h j
  omega
theorem or_bit (x b : Nat) (hx : x < 32768) (hb : b < 2) : bits .or .u64 (x : Int) ((b : Int) * 32768) = ((x + 32768 * b : Nat) : Int) := by
  have e : (b : Int) * 32768 = ((2 ^ 15 * b : Nat) : Int) := by omega
  rw [e, u64_or_nat _ _ (by omega) (by omega)]
  have := Nat.two_pow_add_eq_or_of_lt (show x < 2 ^ 15 by omega) b
  rw [Nat.or_comm, ← this]
  omega
/-- amid a halving -/
structure HalfI (a : List Nat) (k : Nat) (l : List Nat) : Prop where
  len : l.length = 16
  done : ∀ j, j < k → l.getD j 0 = a.getD j 0 / 2 + 32768 * (a.getD (j + 1) 0 % 2)
  rest : ∀ j, k ≤ j → l.getD j 0 = a.getD j 0
theorem HalfI.next {a l : List Nat} {k : Nat} (h : HalfI a k l) (hk : k < 16) : HalfI a (k + 1) (l.set k (a.getD k 0 / 2 + 32768 * (a.getD (k + 1) 0 % 2))) := by
  have hl := h.len
  refine ⟨by rw [List.length_set]; exact hl, fun j hj => ?_, fun j hj => ?_⟩
  · rw [set_getD _ _ _ _ (by omega)]
    split
    · next e => rw [e]
    · exact h.done j (by omega)
  · rw [set_getD _ _ _ _ (by omega), if_neg (by omega)]
    exact h.rest j (by omega)
theorem HalfI.all {a l : List Nat} (h : HalfI a 16 l) (la : a.length = 16) : l = halfs a := by
  apply List.ext_getElem (by rw [h.len, halfs_len, la])
  intro i h1 h2
  have := h.done i (by rw [h.len] at h1; exact h1)
  rw [← halfs_get a i (by rw [h.len] at h1; omega), List.getD_eq_getElem?_getD, List.getD_eq_getElem?_getD, List.getElem?_eq_getElem h1, List.getElem?_eq_getElem h2] at this
  exact this
set_option maxRecDepth 100000 in
set_option maxHeartbeats 4000000 in
theorem half_any (a : List Nat) (w0 : World) (ha : Whole a) (la : a.length = 16) : Calls Tryz.prog 83 #[nV a] w0 (Out (halfs a) w0) := by
  unfold nV
  go_enter Tryz.func83, Tryz.ntmps83
  go_upto_region 1 with (fail)
  show Code.wp _ _ _ _ ((w0.alloc (.cells (pL a).toArray 31)).alloc (.cells (pL zeros).toArray 31))
  have bA := (new (w := w0) rfl a).alloc (.cells (pL zeros).toArray 31)
  have bB := new (w := w0.alloc (.cells (pL a).toArray 31)) (B := w0.heap.size + 1) (by simp) zeros
  have g2 := gb_alloc (gb_alloc (gb_refl w0 none) (.cells (pL a).toArray 31)) (.cells (pL zeros).toArray 31)
  revert g2; revert bB; revert bA
  generalize (w0.alloc (.cells (pL a).toArray 31)).alloc (.cells (pL zeros).toArray 31) = w2
  intro bA bB g2
  have H2 := Lib.hid (And.intro g2 (And.intro bA bB)); clear g2 bA bB
  have HA := Lib.hid (And.intro ha la); clear ha la
  go_wp2
  go_loopw [3] (fun i wr => ∃ (k : Nat) (l : List Nat), k ≤ 16 ∧ i = .int .i64 k ∧ HalfI a k l ∧ w0.grownBy wr none ∧ Blk wr w0.heap.size 31 (pL l) ∧ Blk wr (w0.heap.size + 1) 31 (pL zeros)) (fun i _ => 16 - (intOf i).toNat)
  case atStart => exact ⟨0, a, by omega, rfl, ⟨HA.out.2, fun j hj => by omega, fun _ _ => rfl⟩, H2.out.1, H2.out.2.1, H2.out.2.2⟩
  case round =>
    obtain ⟨k, l, hk, rfl, hh, hg, hb, hz⟩ := hrel
    by_cases hlt : k < 16
    · have i0 : (k : Int) < 16 := by omega
      have hl := hh.len
      have c0 := cell hb k (by omega)
      rw [hh.rest k (Nat.le_refl _)] at c0
      have f0 := hb.free k
      have v0 := of_whole HA.out.1 k
      have vy := of_whole HA.out.1 (k + 1)
      have hn := hh.next hlt
      have hm := Nat.mod_lt (a.getD (k + 1) 0) (show 0 < 2 by decide)
      have s1 := set hb k (a.getD k 0 / 2)
      have z1 := hz.other (a := ⟨w0.heap.size, k, none⟩) (by show w0.heap.size ≠ w0.heap.size + 1; omega) (.int .u64 ((a.getD k 0 / 2 : Nat) : Int))
      have g1 := gb_set_new hg (p := ⟨w0.heap.size, k, none⟩) (Nat.le_refl _) (.int .u64 ((a.getD k 0 / 2 : Nat) : Int))
      have zlen : (l.set k (a.getD k 0 / 2)).length = 16 := by rw [List.length_set]; exact hl
      have zget : ∀ j, (l.set k (a.getD k 0 / 2)).getD j 0 = if j = k then a.getD k 0 / 2 else l.getD j 0 := fun j => set_getD _ _ _ _ (by omega)
      have zset : (l.set k (a.getD k 0 / 2)).set k (a.getD k 0 / 2 + 32768 * (a.getD (k + 1) 0 % 2)) = l.set k (a.getD k 0 / 2 + 32768 * (a.getD (k + 1) 0 % 2)) := by rw [List.set_set]
      have hr1 := hh.rest (k + 1) (by omega)
      have hlast : k = 15 → l.set k (a.getD k 0 / 2) = l.set k (a.getD k 0 / 2 + 32768 * (a.getD (k + 1) 0 % 2)) := fun e => by
        have h0 : a.getD (k + 1) 0 = 0 := by rw [List.getD_eq_getElem?_getD, List.getElem?_eq_none (by rw [HA.out.2, e]; decide)]; rfl
        rw [h0, Nat.zero_mod, Nat.mul_zero, Nat.add_zero]
      rw [show ((a.getD k 0 / 2 : Nat) : Int) = ((a.getD k 0 : Nat) : Int) / 2 by omega] at s1 z1 g1
      have HI := Lib.hid (And.intro hn (And.intro g1 (And.intro s1 (And.intro z1 (And.intro zset hlast))))); clear hn g1 s1 z1 zset hlast hh hg hb hz
      generalize a.getD k 0 = ak at *
      generalize a.getD (k + 1) 0 = y at *
      by_cases h15 : k < 15
      · have i1 : (k : Int) < 15 := by omega
        have i2 : (k : Int) + 1 < 16 := by omega
        go_upto_region 6 with (fail)
        have HJ := HI.out
        have hHI := HI.out.1
        clear HI c0 f0
        revert HJ
        generalize wr.setCell ⟨w0.heap.size, k, none⟩ (.int .u64 (((ak : Nat) : Int) / 2)) = W
        intro HJ
        have hb := HJ.2.2.1
        have hz := HJ.2.2.2.1
        have c0 := cell hb k (by omega)
        rw [zget k, if_pos rfl] at c0
        have c1 := cell hb (k + 1) (by omega)
        rw [zget (k + 1), if_neg (by omega), hr1] at c1
        have f0 := hb.free k
        have hbd := hb.grown (gb_drew (gb_refl W none)) (by simp)
        have f1 := hbd.free k
        have v1 := vy
        have hbit := and_one64 (y) (by omega)
        have s1 := set hbd k (ak / 2 + 32768 * (y % 2))
        rw [HJ.2.2.2.2.1] at s1
        have z1 := (hz.grown (gb_drew (gb_refl W none)) (by simp)).other (a := ⟨w0.heap.size, k, none⟩) (by show w0.heap.size ≠ w0.heap.size + 1; omega) (.int .u64 ((ak / 2 + 32768 * (y % 2) : Nat) : Int))
        have g1 := gb_set_new (gb_drew HJ.2.1) (p := ⟨w0.heap.size, k, none⟩) (Nat.le_refl _) (.int .u64 ((ak / 2 + 32768 * (y % 2) : Nat) : Int))
        obtain ⟨L, hL⟩ : ∃ L, L = l.set k (ak / 2 + 32768 * (y % 2)) := ⟨_, rfl⟩
        rw [← hL] at s1 hHI
        have hor := or_bit (ak / 2) (y % 2) (by omega) hm
        have hx : ak / 2 < 32768 := by omega
        clear HJ hb hz zget zlen hr1 hL hbd v0
        generalize ak / 2 = x at *
        rcases Nat.mod_two_eq_zero_or_one y with h | h
        · rw [h] at hbit hor s1 z1 g1
          rw [show ((x + 32768 * 0 : Nat) : Int) = (x : Int) by omega] at hor s1 z1 g1
          have hbit : bits .and .u64 (y : Int) 1 = 0 := hbit
          have hor : bits .or .u64 (x : Int) 0 = (x : Int) := hor
          have HI := Lib.hid (And.intro hHI (And.intro g1 (And.intro s1 z1))); clear hHI g1 s1 z1 h hm
          go_region
          go_wp2
          exact ⟨⟨k + 1, L, by omega, by congr 1, HI.out.1, HI.out.2.1, HI.out.2.2.1, HI.out.2.2.2⟩, by simp [intOf]; omega⟩
        · rw [h] at hbit hor s1 z1 g1
          rw [show ((x + 32768 * 1 : Nat) : Int) = (x : Int) + 32768 by omega] at hor s1 z1 g1
          have hbit : bits .and .u64 (y : Int) 1 = 1 := hbit
          have hor : bits .or .u64 (x : Int) 32768 = (x : Int) + 32768 := hor
          have HI := Lib.hid (And.intro hHI (And.intro g1 (And.intro s1 z1))); clear hHI g1 s1 z1 h hm
          go_region
          go_wp2
          exact ⟨⟨k + 1, L, by omega, by congr 1, HI.out.1, HI.out.2.1, HI.out.2.2.1, HI.out.2.2.2⟩, by simp [intOf]; omega⟩
      · have i1 : ¬ (k : Int) < 15 := by omega
        go_wp2
        go_roundw
        case rel => exact ⟨k + 1, l.set k (ak / 2), by omega, by congr 1, by rw [HI.out.2.2.2.2.2 (by omega)]; exact HI.out.1, HI.out.2.1, HI.out.2.2.1, HI.out.2.2.2.1⟩
        case measure => simp [intOf]; omega
    · obtain rfl : k = 16 := by omega
      have hl := hh.all HA.out.2
      have hll := hh.len
      have HL := Lib.hid hl; clear hl hh
      go_upto_region 7 with (fail)
      obtain ⟨rN, hrN⟩ : ∃ r : List Nat, r = l := ⟨_, rfl⟩
      have hrl : rN.length = 16 := by rw [hrN]; exact hll
      have hrb := hb
      rw [← hrN] at hrb
      have HRN := Lib.hid hrN; clear hrN
      refine wp_region_lit ?_
      refine Fg.wpl_value (v := nV rN) (w' := _) rfl (ld rfl rfl hrb hrl rfl rfl) ?_
      simp only [Act.put, List.setIfInBounds_toArray, List.set_cons_succ, List.set_cons_zero]
      refine Fg.wpl_skip rfl rfl (st (l := rN) rfl rfl rfl (hz) (by rw [pL_len]; rfl) (hrl) rfl) ?_
      refine wpList_nil ?_
      have hR := stored (l := rN) (hz) (by rw [pL_len]; rfl) (hrl)
      have gR := gb_setCells_new (cs := pL rN) (hg) (B := w0.heap.size + 1) (by omega) 0
      revert gR; revert hR
      generalize World.setCells _ _ _ _ = wR
      intro hR gR
      go_wp2_with fail
      exact bodyPost_ret (v := nV rN) (res Tryz.results83 _ _ (w0.heap.size + 1) rN rfl hR (hrl)) rfl ⟨by rw [HRN.out, HL.out], gR⟩
end Nr
end Go.Proofs.YtcmnecnbcohaeaaGreatDoor

/- The document's field: what Root reckons. -/
namespace Go.Proofs.YtcmnecnbcohaeaaGreatDoor
open Go.RowKit Ns Ow
namespace Nr
/-- two results: a number, and whether there is one -/
def Out2 (r : List Nat × Bool) (w : World) (e : Ending) (w' : World) : Prop := e = .returned (.tuple #[nV r.1, .bool r.2]) ∧ w.grownBy w' none
theorem res2 {fn : Func} {p u : Tmp} (h : fn.results = #[.cell p 31, .tmp u]) (tmps : Array Value) (w : World) (g : Nat) (l : List Nat) (v : Value) (hp : tmps.getD p undef = .pointer (some ⟨g, 0, none⟩)) (hu : tmps.getD u undef = v) (hg : Blk w g 31 (pL l)) (hl : l.length = 16) :
    (results fn tmps).run Tryz.prog w = .ok (.tuple #[nV l, v]) w := by
  have h1 := results_cell_row (fn := { fn with results := #[.cell p 31] }) rfl tmps w g 31 (pL l).toArray (0, 0) _ hp hg Tryz.underlying31 rfl (by rw [List.size_toArray, pL_len, hl]; exact info_N)
  rw [results_cell_tmp h, hp, hu]
  have hp' : tmps[p]?.getD undef = .pointer (some ⟨g, 0, none⟩) := by simpa using hp
  simp only [results] at h1
  simp [asAddr, hp'] at h1 ⊢
  rw [h1]
  rfl
/-- w = u / v -/
def rU (b : List Nat) : List Nat := num (V b ^ (2 ^ 255 - 21))
def rW (a b : List Nat) : List Nat := num (V a * V (rU b))
def e1 : List Nat := Pp.set 0 65520
def e2 : List Nat := halfs e1
def e3 : List Nat := halfs e2
def e4 : List Nat := halfs e3
def q1 : List Nat := Pp.set 0 65516
def q2 : List Nat := halfs q1
def q3 : List Nat := halfs q2
def rR (w : List Nat) : List Nat := num (V w ^ V e4)
def rI : List Nat := num (V (num 2) ^ V q3)
def rR1 (r : List Nat) : List Nat := num (V r * V rI)
def sqL (r : List Nat) : List Nat := num (V r * V r)
def rEnd (w r : List Nat) : List Nat × Bool := if sqL r = w then (if V r % 2 = 1 then num (V zeros + (Fe.P - V r)) else r, true) else (zeros, false)
def rGo (w : List Nat) : List Nat × Bool := if sqL (rR w) = w then rEnd w (rR w) else rEnd w (rR1 (rR w))
def refRoot (a b : List Nat) : List Nat × Bool := if a = zeros then (zeros, true) else if b = zeros then (zeros, false) else rGo (rW a b)
theorem e1_whole : Whole e1 := by unfold Whole e1; decide
theorem q1_whole : Whole q1 := by unfold Whole q1; decide
theorem V_lt_P (v : Nat) : V (num v) < Fe.P := by rw [num_V, P_is]; exact Nat.mod_lt _ (by decide)
theorem Odd_num (u : Nat) (w : World) : Calls Tryz.prog 44 #[nV (num u)] w fun e w' => e = .returned (.bool (decide (V (num u) % 2 = 1))) ∧ w.grownBy w' none := by
  have := c_odd (V (num u)) w (V_lt_P u)
  rwa [show num (V (num u)) = num u by rw [num_V]; exact num_congr (Nat.mod_mod _ _)] at this
theorem Sub_zero (u : Nat) (w : World) : Calls Tryz.prog 40 #[nV zeros, nV (num u)] w (Out (num (V zeros + (Fe.P - V (num u)))) w) := by
  have := c_sub 0 (V (num u)) w (by decide) (V_lt_P u)
  rw [show num (V (num u)) = num u by rw [num_V]; exact num_congr (Nat.mod_mod _ _), num_zero] at this
  rw [V_zeros]
  exact this
theorem run_neN {ρ : Operand → Value} {o : Oper} {w : World} {x y : Operand} {t : TypeId} {l m : List Nat} (ho : o.op = .binOp .neq 31 x y t) (hx : ρ x = nV l) (hy : ρ y = nV m) (hl : l.length = 16) (hm : m.length = 16) : (execOp ρ o).run Tryz.prog w = .ok (.value (.bool (!decide (l = m)))) w := by
  have h1 := eql_N l m hl hm w
  unfold nV at h1 hx hy
  rw [run_eql_struct] at h1
  have hn : (binOp .neq 31 (.agg (pL l).toArray) (.agg (pL m).toArray)).run Tryz.prog w = .ok (.bool (!decide (l = m))) w := by
    rw [run_neq_struct]
    revert h1
    generalize (Op.equalIn 10000 31 (.agg (pL l).toArray) (.agg (pL m).toArray)).run Tryz.prog w = z
    intro h1
    cases z with
    | ok b w1 =>
      simp only [Result.andThen_ok, Result.ok.injEq] at h1 ⊢
      obtain ⟨h2, h3⟩ := h1
      injection h2 with h2
      exact ⟨by rw [h2], h3⟩
    | _ => simp [Result.andThen] at h1
  have hg := guard_N .neq x y l m w
  unfold nV at hg
  unfold execOp
  simp only [ho, hx, hy, Sem.run_bind, hg, hn, Result.andThen_ok, Sem.run_pure]
end Nr
end Go.Proofs.YtcmnecnbcohaeaaGreatDoor

/- The document's field: Read, walked. -/
namespace Go.Proofs.YtcmnecnbcohaeaaGreatDoor
open Go.RowKit Ns Ow
namespace Nr
def readR (p : List Nat) : List Nat × Bool := if readB p = true then (num (readV p), true) else (zeros, false)
set_option maxRecDepth 100000 in
set_option maxHeartbeats 4000000 in
theorem refRead_any (n c B : Nat) (a : Option Addr) (p : List Nat) (w0 : World) (hn : p.length = n) (hP : BytesAt w0 B a c p) : Calls Tryz.prog 8 #[.slice a n c] w0 (Out2 (readR p) w0) := by
  have hlim := hP.lim
  have hfit := hP.fits
  have htop := hP.top
  go_enter Tryz.func8, Tryz.ntmps8
  go_upto_region 2 with (fail)
  show Code.wp _ _ _ _ ((w0.alloc (.cells (pL zeros).toArray 31)).alloc (.cells (pL zeros).toArray 31))
  have bA := (new (w := w0) rfl zeros).alloc (.cells (pL zeros).toArray 31)
  have bB := new (w := w0.alloc (.cells (pL zeros).toArray 31)) (B := w0.heap.size + 1) (by simp) zeros
  have g2 := gb_alloc (gb_alloc (gb_refl w0 none) (.cells (pL zeros).toArray 31)) (.cells (pL zeros).toArray 31)
  revert bA bB g2
  generalize (w0.alloc (.cells (pL zeros).toArray 31)).alloc (.cells (pL zeros).toArray 31) = w2
  intro bA bB g2
  have H2 := Lib.hid (And.intro g2 (And.intro bA bB)); clear g2 bA bB
  have HP := Lib.hid (And.intro hn hP); clear hn hP
  by_cases h32 : n = 32
  · subst h32
    obtain ⟨pb, po, rfl, hlt, hc⟩ := HP.out.2.cells.resolve_left (by have := HP.out.1; omega)
    have HC := Lib.hid hc; clear hc
    go_wp2_with fail
    go_loopw [5] (fun i wr => ∃ k : Nat, k ≤ 16 ∧ i = .int .i64 k ∧ w0.grownBy wr none ∧ Blk wr w0.heap.size 31 (pL zeros) ∧ Blk wr (w0.heap.size + 1) 31 (pL (pairL p k))) (fun i _ => 16 - (intOf i).toNat)
    case atStart => exact ⟨0, by omega, rfl, H2.out.1, H2.out.2.1, H2.out.2.2⟩
    case round =>
      obtain ⟨k, hk, rfl, hg, hz, hb⟩ := hrel
      by_cases hltk : k < 16
      · have i0 : (k : Int) < 16 := by omega
        have hg0 := hg
        have e1 : wr.cell? ⟨pb, po + 2 * k, none⟩ = some (.int .u8 ((p.getD (2 * k) 0 : Nat) : Int)) := by
          rw [gb_cell hg (p := ⟨pb, po + 2 * k, none⟩) (Nat.lt_of_lt_of_le hlt hlim) (by simp)]; exact HC.out (2 * k) (by have := HP.out.1; omega)
        have e2 : wr.cell? ⟨pb, po + (2 * k + 1), none⟩ = some (.int .u8 ((p.getD (2 * k + 1) 0 : Nat) : Int)) := by
          rw [gb_cell hg (p := ⟨pb, po + (2 * k + 1), none⟩) (Nat.lt_of_lt_of_le hlt hlim) (by simp)]; exact HC.out (2 * k + 1) (by have := HP.out.1; omega)
        have c0 := cell hb k (by rw [pairL_len]; exact hltk)
        have f0 := hb.free k
        have hs := set (hb.grown (gb_drew (gb_refl wr none)) (by simp)) k (pairN p k)
        rw [pairL_next p k hltk] at hs
        have hz := (hz.grown (gb_drew (gb_refl wr none)) (by simp)).other (a := ⟨w0.heap.size + 1, k, none⟩) (by show w0.heap.size + 1 ≠ w0.heap.size; omega) (.int .u64 ((pairN p k : Nat) : Int))
        have hg0 := gb_set_new (gb_drew hg0) (p := ⟨w0.heap.size + 1, k, none⟩) (by show w0.heap.size ≤ w0.heap.size + 1; omega) (.int .u64 ((pairN p k : Nat) : Int))
        have b1 := HP.out.2.byte (2 * k)
        have b2 := HP.out.2.byte (2 * k + 1)
        unfold pairN at hs hz hg0
        have ev : ((p.getD (2 * k) 0 + 256 * p.getD (2 * k + 1) 0 : Nat) : Int) = ((p.getD (2 * k) 0 : Nat) : Int) + ((p.getD (2 * k + 1) 0 : Nat) : Int) * 256 := by omega
        rw [ev] at hs hz hg0
        clear ev hg
        have HI := Lib.hid (And.intro hg0 (And.intro hz hs)); clear hz hb hs hg0
        generalize p.getD (2 * k) 0 = x at *
        generalize p.getD (2 * k + 1) 0 = y at *
        have q1 : (2 : Int) * (k : Int) < 32 := by omega
        have q2 : (2 : Int) * (k : Int) + 1 < 32 := by omega
        have q3 : ((2 : Int) * (k : Int)).toNat = 2 * k := by omega
        have q4 : ((2 : Int) * (k : Int) + 1).toNat = 2 * k + 1 := by omega
        go_wp2
        go_region
        go_wp2
        go_roundw
        case rel => exact ⟨k + 1, by omega, by go_num, HI.out.1, HI.out.2.1, HI.out.2.2⟩
        case measure => simp [intOf]; omega
      · obtain rfl : k = 16 := by omega
        have HI := Lib.hid (And.intro hg (And.intro hz hb)); clear hg hz hb
        have cP := fun w => p_any w
        have cL := fun w => less_any (pairL p 16) Pp w (pairL_whole HP.out.2.byte 16) Pp_whole (pairL_len p 16) rfl
        rw [Pp_V, ← P_is] at cL
        go_upto_region 8 with (fail)
        refine Fg.region_t [] [.any, .any, .any, .any, .any, .any, .any, .any, .any, .any, .any, .any, .any, .any, .any, .any, .any, .any, .any, .any, .any, .any, .any, .any, .any, .any, .any, .any, .any, .any, .any, .val (nV (pairL p 16)), .val (nV Pp), .val (Value.bool (decide (V (pairL p 16) < Fe.P))), .val (Value.bool (!decide (V (pairL p 16) < Fe.P)))] wr 4 (gb_refl _ _) (by kernel_rfl) (by kernel_rfl) (by kernel_rfl) (by kernel_rfl) (by decide) (by kernel_rfl) ?_ ?_
        · refine ⟨Fg.vT rfl (by decide) fun ac w h => ?_, ?_⟩
          · have e4 : ac.tmps.getD 4 undef = Value.pointer (some ⟨w0.heap.size + 1, 0, none⟩) := h.rest 4 (by kernel_rfl)
            refine ⟨nV (pairL p 16), w, wants_none rfl, ?_, gb_refl _ _, rfl⟩
            exact ld rfl e4 (HI.out.2.2.grown h.base (by simp)) (pairL_len p 16) rfl rfl
          refine ⟨Fg.cT rfl (by decide) fun ac w h => ?_, ?_⟩
          · refine ⟨28, #[], wants_none rfl, Fg.run_call rfl rfl (by simp only [List.map_toArray, List.map_nil]) (Fg.run_enter Tryz.func28 (by kernel_rfl) (by kernel_rfl)), ?_⟩
            exact (cP w).mono fun _ _ ⟨he, hg⟩ => ⟨_, he, hg, rfl⟩
          refine ⟨Fg.cT rfl (by decide) fun ac w h => ?_, ?_⟩
          · have e31 : ac.tmps.getD 31 undef = nV (pairL p 16) := h.dep 31 (by kernel_rfl)
            have e32 : ac.tmps.getD 32 undef = nV Pp := h.dep 32 (by kernel_rfl)
            refine ⟨27, #[nV (pairL p 16), nV Pp], wants_none rfl, Fg.run_call rfl rfl (by simp only [List.map_toArray, List.map_cons, List.map_nil, Act.eval, e31, e32]) (Fg.run_enter Tryz.func27 (by kernel_rfl) (by kernel_rfl)), ?_⟩
            exact (cL w).mono fun _ _ ⟨he, hg⟩ => ⟨_, he, hg, rfl⟩
          refine ⟨Fg.vT rfl (by decide) fun ac w h => ?_, ?_⟩
          · have e33 : ac.tmps.getD 33 undef = Value.bool (decide (V (pairL p 16) < Fe.P)) := h.dep 33 (by kernel_rfl)
            refine ⟨.bool (!decide (V (pairL p 16) < Fe.P)), w, wants_none rfl, ?_, gb_refl _ _, rfl⟩
            clear h
            simp only [execOp, Act.eval, e33]
            go_simp
          trivial
        · intro aq wq hB hsz hdf hrest hslots hpt
          obtain ⟨u31, e31⟩ : ∃ u, aq.tmps.getD 31 undef = u := ⟨_, rfl⟩
          obtain ⟨u32, e32⟩ : ∃ u, aq.tmps.getD 32 undef = u := ⟨_, rfl⟩
          obtain ⟨u33, e33⟩ : ∃ u, aq.tmps.getD 33 undef = u := ⟨_, rfl⟩
          have e34 : aq.tmps.getD 34 undef = Value.bool (!decide (V (pairL p 16) < Fe.P)) := hslots 34 (by kernel_rfl)
          obtain rfl := Fg.frame_is (a := aq) (vs := [Value.slice (some ⟨pb, po, none⟩) 32 c, undef, Value.pointer (some ⟨w0.heap.size, 0, none⟩), Value.bool false, Value.pointer (some ⟨w0.heap.size + 1, 0, none⟩), Value.int .i64 ((16 : Nat) : Int), Value.slice (some ⟨pb, po, none⟩) 32 c, Value.int .i64 32, Value.bool false, undef, Value.int .i64 ((16 : Nat) : Int), Value.bool false, u12, u13, u14, u15, u16, u17, u18, u19, u20, u21, u22, u23, u24, u25, u26, u27, u28, u29, u30, u31, u32, u33, Value.bool (!decide (V (pairL p 16) < Fe.P)), undef, undef]) hsz ⟨hrest 0 (by kernel_rfl), hrest 1 (by kernel_rfl), hrest 2 (by kernel_rfl), hrest 3 (by kernel_rfl), hrest 4 (by kernel_rfl), hrest 5 (by kernel_rfl), hrest 6 (by kernel_rfl), hrest 7 (by kernel_rfl), hrest 8 (by kernel_rfl), hrest 9 (by kernel_rfl), hrest 10 (by kernel_rfl), hrest 11 (by kernel_rfl), hrest 12 (by kernel_rfl), hrest 13 (by kernel_rfl), hrest 14 (by kernel_rfl), hrest 15 (by kernel_rfl), hrest 16 (by kernel_rfl), hrest 17 (by kernel_rfl), hrest 18 (by kernel_rfl), hrest 19 (by kernel_rfl), hrest 20 (by kernel_rfl), hrest 21 (by kernel_rfl), hrest 22 (by kernel_rfl), hrest 23 (by kernel_rfl), hrest 24 (by kernel_rfl), hrest 25 (by kernel_rfl), hrest 26 (by kernel_rfl), hrest 27 (by kernel_rfl), hrest 28 (by kernel_rfl), hrest 29 (by kernel_rfl), hrest 30 (by kernel_rfl), e31, e32, e33, e34, hrest 35 (by kernel_rfl), hrest 36 (by kernel_rfl), trivial⟩ hdf
          clear hsz hdf hrest hslots hpt e31 e32 e33 e34
          refine wpList_nil ?_
          have HJ := Lib.hid (And.intro (gb_trans HI.out.1 hB) (And.intro (HI.out.2.1.grown hB (by simp)) (HI.out.2.2.grown hB (by simp)))); clear hB
          rcases Nat.lt_or_ge (V (pairL p 16)) Fe.P with hv | hv
          · have hr : readB p = true := by unfold readB readV; rw [HP.out.1, decide_eq_true hv]; rfl
            rw [decide_eq_true hv]
            have HE : Hid (readR p = (pairL p 16, true)) := Lib.hid (by unfold readR; rw [if_pos hr, read_num HP.out.2.byte hv])
            clear hr hv cL cP
            go_upto_region 10 with (fail)
            refine wp_region_lit ?_
            refine Fg.wpl_value (v := nV (pairL p 16)) (w' := wq) rfl (ld rfl rfl (HJ.out.2.2) (pairL_len p 16) rfl rfl) ?_
            simp only [Act.put, List.setIfInBounds_toArray, List.set_cons_succ, List.set_cons_zero]
            refine Fg.wpl_skip rfl rfl (st (l := pairL p 16) rfl rfl rfl (HJ.out.2.1) rfl (pairL_len p 16) rfl) ?_
            refine Fg.wpl_value (v := .bool true) (w' := _) rfl (by go_simp; rfl) ?_
            simp only [Act.put, List.setIfInBounds_toArray, List.set_cons_succ, List.set_cons_zero]
            refine wpList_nil ?_
            have hR := stored (l := pairL p 16) (HJ.out.2.1) rfl (pairL_len p 16)
            have gR := gb_setCells_new (cs := pL (pairL p 16)) (HJ.out.1) (B := w0.heap.size) (Nat.le_refl _) 0
            revert gR; revert hR
            generalize World.setCells _ _ _ _ = wR
            intro hR gR
            go_wp2_with fail
            exact bodyPost_ret (v := .tuple #[nV (pairL p 16), .bool true]) (res2 Tryz.results8 _ _ (w0.heap.size) (pairL p 16) (.bool true) rfl rfl hR (pairL_len p 16)) rfl ⟨by rw [HE.out], gR⟩
          · have hr : readB p = false := by unfold readB readV; rw [decide_eq_false (Nat.not_lt.2 hv), Bool.and_false]
            rw [decide_eq_false (Nat.not_lt.2 hv)]
            have HE : Hid (readR p = (zeros, false)) := Lib.hid (by unfold readR; rw [hr]; rfl)
            clear hr hv cL cP
            go_upto_region 9 with (fail)
            refine wp_region_lit ?_
            refine Fg.wpl_value (v := nV zeros) (w' := wq) rfl (by go_simp; rfl) ?_
            simp only [Act.put, List.setIfInBounds_toArray, List.set_cons_succ, List.set_cons_zero]
            refine Fg.wpl_skip rfl rfl (st (l := zeros) rfl rfl rfl (HJ.out.2.1) rfl rfl rfl) ?_
            refine Fg.wpl_value (v := .bool false) (w' := _) rfl (by go_simp; rfl) ?_
            simp only [Act.put, List.setIfInBounds_toArray, List.set_cons_succ, List.set_cons_zero]
            refine wpList_nil ?_
            have hR := stored (l := zeros) (HJ.out.2.1) rfl rfl
            have gR := gb_setCells_new (cs := pL zeros) (HJ.out.1) (B := w0.heap.size) (Nat.le_refl _) 0
            revert gR; revert hR
            generalize World.setCells _ _ _ _ = wR
            intro hR gR
            go_wp2_with fail
            exact bodyPost_ret (v := .tuple #[nV zeros, .bool false]) (res2 Tryz.results8 _ _ (w0.heap.size) zeros (.bool false) rfl rfl hR rfl) rfl ⟨by rw [HE.out], gR⟩
  · have h2 : ((n : Int) != 32) = true := by simp; omega
    go_upto_region 3 with (fail)
    have hb : readB p = false := by unfold readB; rw [HP.out.1, decide_eq_false h32]; rfl
    have HB := Lib.hid hb; clear hb
    refine wp_region_lit ?_
    refine Fg.wpl_value (v := nV (zeros)) (w' := w2) rfl (ld rfl rfl (H2.out.2.2) (rfl) rfl rfl) ?_
    simp only [Act.put, List.setIfInBounds_toArray, List.set_cons_succ, List.set_cons_zero]
    refine Fg.wpl_skip rfl rfl (st (l := zeros) rfl rfl rfl (H2.out.2.1) rfl (rfl) rfl) ?_
    refine Fg.wpl_value (v := .bool false) (w' := _) rfl (by go_simp; rfl) ?_
    simp only [Act.put, List.setIfInBounds_toArray, List.set_cons_succ, List.set_cons_zero]
    refine wpList_nil ?_
    have hR := stored (l := zeros) (H2.out.2.1) rfl (rfl)
    have gR := gb_setCells_new (cs := pL (zeros)) (H2.out.1) (B := w0.heap.size) (Nat.le_refl _) 0
    revert gR; revert hR
    generalize World.setCells _ _ _ _ = wR
    intro hR gR
    go_wp2_with fail
    exact bodyPost_ret (v := .tuple #[nV (zeros), .bool false]) (res2 Tryz.results8 _ _ (w0.heap.size) (zeros) (.bool false) rfl rfl hR (rfl)) rfl ⟨by unfold readR; rw [HB.out]; rfl, gR⟩
end Nr
end Go.Proofs.YtcmnecnbcohaeaaGreatDoor

/- field: ofBytes, of any slice. -/
namespace Go.Proofs.YtcmnecnbcohaeaaGreatDoor
open Go.RowKit Ow
abbrev Tells (f : Nat) (args : Array Value) (w : World) (v : Value) : Prop := Calls Tryz.prog f args w fun e w' => e = .returned v ∧ w.grownBy w' none
theorem results_row_tmp {P : Program} {fn : Func} {p u : Tmp} {ty : TypeId} (h : fn.results = #[.cell p ty, .tmp u]) (tmps : Array Value) (w : World) (g : Nat) (t : TypeId) (cs : Array Value) (fr : Nat × Nat) (d : TypeDesc)
    (hp : tmps.getD p undef = .pointer (some ⟨g, 0, none⟩)) (hg : w.heap[g]? = some (.cells cs t fr))
    (hu : P.underlying ty = some d) (hd : (match d with | .struct _ | .array _ _ => true | _ => false) = true) (hi : (P.info? ty).map (·.size) = some cs.size) {v : Value} (hv : tmps.getD u undef = v) :
    (results fn tmps).run P w = .ok (.tuple #[.agg cs, v]) w := by
  rw [results_cell_tmp h, hp, hv]
  simp [asAddr, run_loadVar_row w g t ty cs fr d hg hu hd hi, Result.andThen]
theorem sl_at (B o c k : Nat) (hk : k ≤ 32) (hc : k < c) (w : World) : (Instr.slice 22 (.slice (some ⟨B, o, none⟩) 32 c) (some (.int .i64 (k : Int))) none none).run Tryz.prog w = .ok (.slice (some ⟨B, o + k, none⟩) (32 - k) (c - k)) w := by
  obtain ⟨a', h1, h2⟩ := slice_from (some ⟨B, o, none⟩) 32 c k hk
  rw [h1 w, h2 hc B o rfl]
set_option maxRecDepth 100000 in
set_option maxHeartbeats 1600000 in
theorem ofBytes_at (B o c : Nat) (F : Nat → Int) (w0 : World) (h32 : 32 ≤ c) (hf : ∀ i, 0 ≤ F i ∧ F i < 256) (hc : ∀ i, i < 32 → w0.cell? ⟨B, o + i, none⟩ = some (.int .u8 (F i))) (hB : B < w0.heap.size) :
    Calls Tryz.prog 25 #[.slice (some ⟨B, o, none⟩) 32 c] w0 (FeOut (fromN (wordOf F 32)) w0) := by
  have HC := Lib.hid hc; clear hc
  have HF := Lib.hid hf; clear hf
  have hXb : ∀ s, 0 ≤ wordOf (fun i => F (s + i)) 8 ∧ wordOf (fun i => F (s + i)) 8 < 18446744073709551616 := fun s => by
    have h := wordOf_bd (fun i => F (s + i)) (fun i => HF.out _) 8
    have h64 : (2 : Int) ^ (8 * 8) = 18446744073709551616 := by decide
    rw [h64] at h
    exact h
  have hN := word4 F
  have h0 : wordOf F 8 = wordOf (fun i => F (0 + i)) 8 := by simp
  rw [h0] at hN
  clear h0
  have g0 : ∀ s n c' W, 8 ≤ n → s + 8 ≤ 32 → (∀ i, i < 32 → W.cell? ⟨B, o + i, none⟩ = some (.int .u8 (F i))) → Tells 51 #[.slice (some ⟨B, o + s, none⟩) n c'] W (.int .u64 (wordOf (fun i => F (s + i)) 8)) :=
    fun s n c' W hn hs h => (getWord_any B (o + s) n c' (fun i => F (s + i)) W hn (fun i => HF.out _) (fun i hi => by rw [Nat.add_assoc]; exact h (s + i) (by omega))).mono fun e w' ⟨h1, h2⟩ => ⟨h1, by subst h2; exact gb_refl _ _⟩
  obtain ⟨X, hX⟩ : ∃ X : Nat → Int, ∀ s, X s = wordOf (fun i => F (s + i)) 8 := ⟨_, fun _ => rfl⟩
  simp only [← hX] at hXb hN g0
  clear hX
  have G := Lib.hid g0; clear g0
  have HN := Lib.hid hN; clear hN
  obtain ⟨p0, q0⟩ := hXb 0
  obtain ⟨p1, q1⟩ := hXb 8
  obtain ⟨p2, q2⟩ := hXb 16
  obtain ⟨p3, q3⟩ := hXb 24
  clear hXb
  have HL := Lib.hid (limbs_of (X 0) (X 8) (X 16) (X 24) p0 p1 p2 q0 q1 q2)
  have S0 : Hid (∀ w, (Instr.slice 22 (.slice (some ⟨B, o, none⟩) 32 c) (some (.int .i64 0)) none none).run Tryz.prog w = .ok (.slice (some ⟨B, o + 0, none⟩) 32 (c - 0)) w) := Lib.hid (sl_at B o c 0 (by decide) (by omega))
  have S8 : Hid (∀ w, (Instr.slice 22 (.slice (some ⟨B, o, none⟩) 32 c) (some (.int .i64 8)) none none).run Tryz.prog w = .ok (.slice (some ⟨B, o + 8, none⟩) 24 (c - 8)) w) := Lib.hid (sl_at B o c 8 (by decide) (by omega))
  have S16 : Hid (∀ w, (Instr.slice 22 (.slice (some ⟨B, o, none⟩) 32 c) (some (.int .i64 16)) none none).run Tryz.prog w = .ok (.slice (some ⟨B, o + 16, none⟩) 16 (c - 16)) w) := Lib.hid (sl_at B o c 16 (by decide) (by omega))
  have S24 : Hid (∀ w, (Instr.slice 22 (.slice (some ⟨B, o, none⟩) 32 c) (some (.int .i64 24)) none none).run Tryz.prog w = .ok (.slice (some ⟨B, o + 24, none⟩) 8 (c - 24)) w) := Lib.hid (sl_at B o c 24 (by decide) (by omega))
  have HH := Lib.hid h32; clear h32
  go_enter Tryz.func25, Tryz.ntmps25
  go_upto_region 1 with (fail)
  have GG : w0.grownBy (w0.alloc (.cells [Value.int IntKind.u64 0, Value.int IntKind.u64 0, Value.int IntKind.u64 0, Value.int IntKind.u64 0, Value.int IntKind.u64 0].toArray 27)) none := gb_alloc (gb_refl _ _) _
  have hR : Blk (w0.alloc (.cells [Value.int IntKind.u64 0, Value.int IntKind.u64 0, Value.int IntKind.u64 0, Value.int IntKind.u64 0, Value.int IntKind.u64 0].toArray 27)) (w0.heap.size) 27 [Value.int IntKind.u64 0, Value.int IntKind.u64 0, Value.int IntKind.u64 0, Value.int IntKind.u64 0, Value.int IntKind.u64 0] := Blk.new w0 [Value.int IntKind.u64 0, Value.int IntKind.u64 0, Value.int IntKind.u64 0, Value.int IntKind.u64 0, Value.int IntKind.u64 0] _
  revert GG hR
  generalize w0.alloc (.cells [Value.int IntKind.u64 0, Value.int IntKind.u64 0, Value.int IntKind.u64 0, Value.int IntKind.u64 0, Value.int IntKind.u64 0].toArray 27) = W0
  intro GG hR
  have Gs := GG.size
  have HG := Lib.hid GG
  have Gs0 := GG.size
  have l1hR := hR.lt
  refine Fg.wp_region_tail (ps := []) [.any, .any, .any, .val (Value.int .u64 (X 0)), .val (Value.int .u64 (X 8)), .val (Value.int .u64 (X 16)), .val (Value.int .u64 (X 24)), .val (Value.slice (some ⟨B, o, none⟩) 32 c), .val (Value.slice (some ⟨B, o + 0, none⟩) 32 (c - 0)), .val (Value.int .u64 (X 0)), .val (Value.slice (some ⟨B, o, none⟩) 32 c), .val (Value.slice (some ⟨B, o + 8, none⟩) 24 (c - 8)), .val (Value.int .u64 (X 8)), .val (Value.slice (some ⟨B, o, none⟩) 32 c), .val (Value.slice (some ⟨B, o + 16, none⟩) 16 (c - 16)), .val (Value.int .u64 (X 16)), .val (Value.slice (some ⟨B, o, none⟩) 32 c), .val (Value.slice (some ⟨B, o + 24, none⟩) 8 (c - 24)), .val (Value.int .u64 (X 24))] (fun w => World.grownBy W0 w none) 16 (gb_drew (gb_refl _ _)) (by kernel_rfl) (by kernel_rfl) (by kernel_rfl) (by kernel_rfl) (by decide) (Fg.ptrs_undef (by kernel_rfl)) ?_ ?_
  · refine ⟨⟨⟨_, rfl⟩, Fg.valueP (fun _ _ h k => gb_trans h k) rfl (by decide) fun ac w h => ?_⟩, ?_⟩
    · have e0 : ac.tmps.getD 0 undef = Value.slice (some ⟨B, o, none⟩) 32 c := h.rest 0 (by kernel_rfl)
      exact ⟨wants_none rfl, Value.slice (some ⟨B, o, none⟩) 32 c, w, Fg.run_move rfl e0, gb_refl _ _, rfl⟩
    refine ⟨⟨⟨_, rfl⟩, Fg.valueP (fun _ _ h k => gb_trans h k) rfl (by decide) fun ac w h => ?_⟩, ?_⟩
    · have e7 : ac.tmps.getD 7 undef = Value.slice (some ⟨B, o, none⟩) 32 c := h.dep 7 (by kernel_rfl)
      refine ⟨wants_none rfl, Value.slice (some ⟨B, o + 0, none⟩) 32 (c - 0), w, ?_, gb_refl _ _, rfl⟩
      clear h
      have hrun := S0.out w
      simp only [execOp, Act.eval, e7, Option.map_some, Option.map_none]
      go_simp
    refine ⟨⟨⟨_, rfl⟩, Fg.callP (fun _ _ h k => gb_trans h k) rfl (by decide) fun ac w h => ?_⟩, ?_⟩
    · have e8 : ac.tmps.getD 8 undef = Value.slice (some ⟨B, o + 0, none⟩) 32 (c - 0) := h.dep 8 (by kernel_rfl)
      refine ⟨wants_none rfl, 51, #[Value.slice (some ⟨B, o + 0, none⟩) 32 (c - 0)], Fg.run_call rfl rfl (by simp only [List.map_toArray, List.map_cons, List.map_nil, Act.eval, e8]) (Fg.run_enter Tryz.func51 (by kernel_rfl) (by kernel_rfl)), ?_⟩
      exact (G.out 0 32 (c - 0) _ (by decide) (by decide) (fun i hi => by rw [gb_cell (gb_trans HG.out h.base) (p := ⟨B, o + i, none⟩) hB (by simp)]; exact HC.out i hi)).mono fun _ _ ⟨he, hg⟩ => ⟨_, he, hg, rfl⟩
    refine ⟨⟨⟨_, rfl⟩, Fg.valueP (fun _ _ h k => gb_trans h k) rfl (by decide) fun ac w h => ?_⟩, ?_⟩
    · have e0 : ac.tmps.getD 0 undef = Value.slice (some ⟨B, o, none⟩) 32 c := h.rest 0 (by kernel_rfl)
      exact ⟨wants_none rfl, Value.slice (some ⟨B, o, none⟩) 32 c, w, Fg.run_move rfl e0, gb_refl _ _, rfl⟩
    refine ⟨⟨⟨_, rfl⟩, Fg.valueP (fun _ _ h k => gb_trans h k) rfl (by decide) fun ac w h => ?_⟩, ?_⟩
    · have e10 : ac.tmps.getD 10 undef = Value.slice (some ⟨B, o, none⟩) 32 c := h.dep 10 (by kernel_rfl)
      refine ⟨wants_none rfl, Value.slice (some ⟨B, o + 8, none⟩) 24 (c - 8), w, ?_, gb_refl _ _, rfl⟩
      clear h
      have hrun := S8.out w
      simp only [execOp, Act.eval, e10, Option.map_some, Option.map_none]
      go_simp
    refine ⟨⟨⟨_, rfl⟩, Fg.callP (fun _ _ h k => gb_trans h k) rfl (by decide) fun ac w h => ?_⟩, ?_⟩
    · have e11 : ac.tmps.getD 11 undef = Value.slice (some ⟨B, o + 8, none⟩) 24 (c - 8) := h.dep 11 (by kernel_rfl)
      refine ⟨wants_none rfl, 51, #[Value.slice (some ⟨B, o + 8, none⟩) 24 (c - 8)], Fg.run_call rfl rfl (by simp only [List.map_toArray, List.map_cons, List.map_nil, Act.eval, e11]) (Fg.run_enter Tryz.func51 (by kernel_rfl) (by kernel_rfl)), ?_⟩
      exact (G.out 8 24 (c - 8) _ (by decide) (by decide) (fun i hi => by rw [gb_cell (gb_trans HG.out h.base) (p := ⟨B, o + i, none⟩) hB (by simp)]; exact HC.out i hi)).mono fun _ _ ⟨he, hg⟩ => ⟨_, he, hg, rfl⟩
    refine ⟨⟨⟨_, rfl⟩, Fg.valueP (fun _ _ h k => gb_trans h k) rfl (by decide) fun ac w h => ?_⟩, ?_⟩
    · have e0 : ac.tmps.getD 0 undef = Value.slice (some ⟨B, o, none⟩) 32 c := h.rest 0 (by kernel_rfl)
      exact ⟨wants_none rfl, Value.slice (some ⟨B, o, none⟩) 32 c, w, Fg.run_move rfl e0, gb_refl _ _, rfl⟩
    refine ⟨⟨⟨_, rfl⟩, Fg.valueP (fun _ _ h k => gb_trans h k) rfl (by decide) fun ac w h => ?_⟩, ?_⟩
    · have e13 : ac.tmps.getD 13 undef = Value.slice (some ⟨B, o, none⟩) 32 c := h.dep 13 (by kernel_rfl)
      refine ⟨wants_none rfl, Value.slice (some ⟨B, o + 16, none⟩) 16 (c - 16), w, ?_, gb_refl _ _, rfl⟩
      clear h
      have hrun := S16.out w
      simp only [execOp, Act.eval, e13, Option.map_some, Option.map_none]
      go_simp
    refine ⟨⟨⟨_, rfl⟩, Fg.callP (fun _ _ h k => gb_trans h k) rfl (by decide) fun ac w h => ?_⟩, ?_⟩
    · have e14 : ac.tmps.getD 14 undef = Value.slice (some ⟨B, o + 16, none⟩) 16 (c - 16) := h.dep 14 (by kernel_rfl)
      refine ⟨wants_none rfl, 51, #[Value.slice (some ⟨B, o + 16, none⟩) 16 (c - 16)], Fg.run_call rfl rfl (by simp only [List.map_toArray, List.map_cons, List.map_nil, Act.eval, e14]) (Fg.run_enter Tryz.func51 (by kernel_rfl) (by kernel_rfl)), ?_⟩
      exact (G.out 16 16 (c - 16) _ (by decide) (by decide) (fun i hi => by rw [gb_cell (gb_trans HG.out h.base) (p := ⟨B, o + i, none⟩) hB (by simp)]; exact HC.out i hi)).mono fun _ _ ⟨he, hg⟩ => ⟨_, he, hg, rfl⟩
    refine ⟨⟨⟨_, rfl⟩, Fg.valueP (fun _ _ h k => gb_trans h k) rfl (by decide) fun ac w h => ?_⟩, ?_⟩
    · have e0 : ac.tmps.getD 0 undef = Value.slice (some ⟨B, o, none⟩) 32 c := h.rest 0 (by kernel_rfl)
      exact ⟨wants_none rfl, Value.slice (some ⟨B, o, none⟩) 32 c, w, Fg.run_move rfl e0, gb_refl _ _, rfl⟩
    refine ⟨⟨⟨_, rfl⟩, Fg.valueP (fun _ _ h k => gb_trans h k) rfl (by decide) fun ac w h => ?_⟩, ?_⟩
    · have e16 : ac.tmps.getD 16 undef = Value.slice (some ⟨B, o, none⟩) 32 c := h.dep 16 (by kernel_rfl)
      refine ⟨wants_none rfl, Value.slice (some ⟨B, o + 24, none⟩) 8 (c - 24), w, ?_, gb_refl _ _, rfl⟩
      clear h
      have hrun := S24.out w
      simp only [execOp, Act.eval, e16, Option.map_some, Option.map_none]
      go_simp
    refine ⟨⟨⟨_, rfl⟩, Fg.callP (fun _ _ h k => gb_trans h k) rfl (by decide) fun ac w h => ?_⟩, ?_⟩
    · have e17 : ac.tmps.getD 17 undef = Value.slice (some ⟨B, o + 24, none⟩) 8 (c - 24) := h.dep 17 (by kernel_rfl)
      refine ⟨wants_none rfl, 51, #[Value.slice (some ⟨B, o + 24, none⟩) 8 (c - 24)], Fg.run_call rfl rfl (by simp only [List.map_toArray, List.map_cons, List.map_nil, Act.eval, e17]) (Fg.run_enter Tryz.func51 (by kernel_rfl) (by kernel_rfl)), ?_⟩
      exact (G.out 24 8 (c - 24) _ (by decide) (by decide) (fun i hi => by rw [gb_cell (gb_trans HG.out h.base) (p := ⟨B, o + i, none⟩) hB (by simp)]; exact HC.out i hi)).mono fun _ _ ⟨he, hg⟩ => ⟨_, he, hg, rfl⟩
    refine ⟨⟨⟨_, rfl⟩, Fg.valueP (fun _ _ h k => gb_trans h k) rfl (by decide) fun ac w h => ?_⟩, ?_⟩
    · have e9 : ac.tmps.getD 9 undef = Value.int .u64 (X 0) := h.dep 9 (by kernel_rfl)
      exact ⟨wants_none rfl, Value.int .u64 (X 0), w, Fg.run_assign rfl e9, gb_refl _ _, rfl⟩
    refine ⟨⟨⟨_, rfl⟩, Fg.valueP (fun _ _ h k => gb_trans h k) rfl (by decide) fun ac w h => ?_⟩, ?_⟩
    · have e12 : ac.tmps.getD 12 undef = Value.int .u64 (X 8) := h.dep 12 (by kernel_rfl)
      exact ⟨wants_none rfl, Value.int .u64 (X 8), w, Fg.run_assign rfl e12, gb_refl _ _, rfl⟩
    refine ⟨⟨⟨_, rfl⟩, Fg.valueP (fun _ _ h k => gb_trans h k) rfl (by decide) fun ac w h => ?_⟩, ?_⟩
    · have e15 : ac.tmps.getD 15 undef = Value.int .u64 (X 16) := h.dep 15 (by kernel_rfl)
      exact ⟨wants_none rfl, Value.int .u64 (X 16), w, Fg.run_assign rfl e15, gb_refl _ _, rfl⟩
    refine ⟨⟨⟨_, rfl⟩, Fg.valueP (fun _ _ h k => gb_trans h k) rfl (by decide) fun ac w h => ?_⟩, ?_⟩
    · have e18 : ac.tmps.getD 18 undef = Value.int .u64 (X 24) := h.dep 18 (by kernel_rfl)
      exact ⟨wants_none rfl, Value.int .u64 (X 24), w, Fg.run_assign rfl e18, gb_refl _ _, rfl⟩
    trivial
  · intro qa V1 g1 hsz hdf hrest hslots hpt
    obtain ⟨u7, hs7⟩ : ∃ u, qa.tmps.getD 7 undef = u := ⟨_, rfl⟩
    obtain ⟨u8, hs8⟩ : ∃ u, qa.tmps.getD 8 undef = u := ⟨_, rfl⟩
    obtain ⟨u9, hs9⟩ : ∃ u, qa.tmps.getD 9 undef = u := ⟨_, rfl⟩
    obtain ⟨u10, hs10⟩ : ∃ u, qa.tmps.getD 10 undef = u := ⟨_, rfl⟩
    obtain ⟨u11, hs11⟩ : ∃ u, qa.tmps.getD 11 undef = u := ⟨_, rfl⟩
    obtain ⟨u12, hs12⟩ : ∃ u, qa.tmps.getD 12 undef = u := ⟨_, rfl⟩
    obtain ⟨u13, hs13⟩ : ∃ u, qa.tmps.getD 13 undef = u := ⟨_, rfl⟩
    obtain ⟨u14, hs14⟩ : ∃ u, qa.tmps.getD 14 undef = u := ⟨_, rfl⟩
    obtain ⟨u15, hs15⟩ : ∃ u, qa.tmps.getD 15 undef = u := ⟨_, rfl⟩
    obtain ⟨u16, hs16⟩ : ∃ u, qa.tmps.getD 16 undef = u := ⟨_, rfl⟩
    obtain ⟨u17, hs17⟩ : ∃ u, qa.tmps.getD 17 undef = u := ⟨_, rfl⟩
    obtain ⟨u18, hs18⟩ : ∃ u, qa.tmps.getD 18 undef = u := ⟨_, rfl⟩
    obtain rfl := Fg.frame_is (a := qa) (vs := [Value.slice (some ⟨B, o, none⟩) 32 c, undef, Value.pointer (some ⟨w0.heap.size, 0, none⟩), Value.int .u64 (X 0), Value.int .u64 (X 8), Value.int .u64 (X 16), Value.int .u64 (X 24), u7, u8, u9, u10, u11, u12, u13, u14, u15, u16, u17, u18, undef, undef, undef, undef, undef, undef, undef, undef, undef, undef, undef, undef, undef, undef, undef, undef, undef, undef, undef, undef, undef, undef, undef]) hsz ⟨hrest 0 (by kernel_rfl), hrest 1 (by kernel_rfl), hrest 2 (by kernel_rfl), (show qa.tmps.getD 3 undef = Value.int .u64 (X 0) from hslots 3 (by kernel_rfl)), (show qa.tmps.getD 4 undef = Value.int .u64 (X 8) from hslots 4 (by kernel_rfl)), (show qa.tmps.getD 5 undef = Value.int .u64 (X 16) from hslots 5 (by kernel_rfl)), (show qa.tmps.getD 6 undef = Value.int .u64 (X 24) from hslots 6 (by kernel_rfl)), hs7, hs8, hs9, hs10, hs11, hs12, hs13, hs14, hs15, hs16, hs17, hs18, hrest 19 (by kernel_rfl), hrest 20 (by kernel_rfl), hrest 21 (by kernel_rfl), hrest 22 (by kernel_rfl), hrest 23 (by kernel_rfl), hrest 24 (by kernel_rfl), hrest 25 (by kernel_rfl), hrest 26 (by kernel_rfl), hrest 27 (by kernel_rfl), hrest 28 (by kernel_rfl), hrest 29 (by kernel_rfl), hrest 30 (by kernel_rfl), hrest 31 (by kernel_rfl), hrest 32 (by kernel_rfl), hrest 33 (by kernel_rfl), hrest 34 (by kernel_rfl), hrest 35 (by kernel_rfl), hrest 36 (by kernel_rfl), hrest 37 (by kernel_rfl), hrest 38 (by kernel_rfl), hrest 39 (by kernel_rfl), hrest 40 (by kernel_rfl), hrest 41 (by kernel_rfl), trivial⟩ hdf
    clear hsz hdf hrest hslots hpt hs7 hs8 hs9 hs10 hs11 hs12 hs13 hs14 hs15 hs16 hs17 hs18
    replace hR := hR.grown g1 (by simp)
    replace GG := gb_trans GG g1
    clear g1
    have z0 := hR.cell (i := 0) rfl
    have z1 := hR.cell (i := 1) rfl
    have z2 := hR.cell (i := 2) rfl
    have z3 := hR.cell (i := 3) rfl
    have z4 := hR.cell (i := 4) rfl
    have y0 := hR.free 0
    have y1 := hR.free 1
    have y2 := hR.free 2
    have y3 := hR.free 3
    have y4 := hR.free 4
    clear hR
    go_wp2
    refine bodyPost_ret (v := (fromN (wordOf F 32)).v) ?_ rfl (feOut_of ⟨rfl, gb_set5 GG (Nat.le_refl _) _ _ _ _ _⟩)
    rw [HN.out, ← HL.out]
    simp [results, Tryz.results25, go_sem, z0, z1, z2, z3, z4, Fe.v]

end Go.Proofs.YtcmnecnbcohaeaaGreatDoor

/- field: Get, of any slice. -/
namespace Go.Proofs.YtcmnecnbcohaeaaGreatDoor
open Go.RowKit Go.Shelf Ow
theorem feL_one (a : Fe) : (feL a).all (·.oneCell') = true := rfl
theorem info_elem : (Tryz.prog.info? 27).map (·.size) = some 5 := by kernel_rfl
theorem wordOf_digit (F : Nat → Int) (hf : ∀ i, 0 ≤ F i ∧ F i < 256) (n i : Nat) (hi : i < n) : wordOf F n / 2 ^ (8 * i) % 256 = F i := by
  obtain ⟨k, rfl⟩ : ∃ k, n = i + (1 + k) := ⟨n - i - 1, by omega⟩
  rw [wordOf_shift F i (1 + k), wordOf_shift (fun j => F (i + j)) 1 k]
  obtain ⟨b0, b1⟩ := wordOf_bd F hf i
  have hp : (2 : Int) ^ (8 * i) ≠ 0 := Int.ne_of_gt (Int.pow_pos (by decide))
  rw [Int.add_mul_ediv_right _ _ hp, Int.ediv_eq_zero_of_lt b0 b1, Int.zero_add]
  have e1 : wordOf (fun j => F (i + j)) 1 = F i := by simp [wordOf]
  have e2 : (2 : Int) ^ (8 * 1) = 256 := by decide
  rw [e1, e2, Int.add_mul_emod_self_right]
  have := hf i
  omega
theorem ints_word (F : Nat → Int) (hf : ∀ i, 0 ≤ F i ∧ F i < 256) (i : Nat) (hi : i < 32) : (intsOf (wordOf F 32)).getD i 0 = F i := by
  rw [List.getD_eq_getElem?_getD, intsOf_get _ i hi, Option.getD_some, wordOf_digit F hf 32 i hi]
theorem bytes_at (w : World) (pb po : Nat) (F : Nat → Int) (hf : ∀ i, 0 ≤ F i ∧ F i < 256) (hc : ∀ i, i < 32 → w.cell? ⟨pb, po + i, none⟩ = some (.int .u8 (F i))) : Lib.BytesIn w (some ⟨pb, po, none⟩) 32 (intsOf (wordOf F 32)) :=
  Lib.BytesIn.of_cells fun i hi => by
    have hadd : (⟨pb, po, none⟩ : Addr).add i = ⟨pb, po + i, none⟩ := by unfold Addr.add; split <;> simp_all
    have hi2 : i < 32 := by simpa [intsOf] using hi
    rw [hadd, hc i hi2, ints_word F hf i hi2]
theorem t_equal (A pb po c : Nat) (T : TypeId) (x : Int) (F : Nat → Int) (w : World) (hf : ∀ i, 0 ≤ F i ∧ F i < 256) (h0 : 0 ≤ x) (h1 : x < 2 ^ 256) (hA : Blk w A T (bytesV x)) (hc : ∀ i, i < 32 → w.cell? ⟨pb, po + i, none⟩ = some (.int .u8 (F i))) {b : Bool} (hb : decide (x = wordOf F 32) = b) :
    Tells 26 #[.slice (some ⟨A, 0, none⟩) 32 32, .slice (some ⟨pb, po, none⟩) 32 c] w (.bool b) := by
  have hw := wordOf_bd F hf 32
  have h2 : (2 : Int) ^ (8 * 32) = 2 ^ 256 := by decide
  rw [h2] at hw
  refine (Any.bytes_Equal_all laysnb115 _ _ 32 32 32 c (intsOf x) (intsOf (wordOf F 32)) w (by simp [intsOf]) (by simp [intsOf]) (bytes_in hA) (bytes_at w pb po F hf hc)).mono ?_
  rintro e w' ⟨rfl, rfl⟩
  exact ⟨by rw [bytesOf_same x _ h0 hw.1 h1 hw.2, hb], gb_refl _ _⟩
set_option maxRecDepth 100000 in
set_option maxHeartbeats 3200000 in
theorem fget_yes (pb po c : Nat) (F : Nat → Int) (w0 : World) (h32 : 32 ≤ c) (hf : ∀ i, 0 ≤ F i ∧ F i < 256) (hc : ∀ i, i < 32 → w0.cell? ⟨pb, po + i, none⟩ = some (.int .u8 (F i))) (hB : pb < w0.heap.size) (hlt : wordOf F 32 < 57896044618658097711785492504343953926634992332820282019728792003956564819949) :
    Calls Tryz.prog 7 #[.slice (some ⟨pb, po, none⟩) 32 c] w0 fun e w' => e = .returned (.tuple #[(fromN (wordOf F 32)).v, .bool true]) ∧ w0.grownBy w' none := by
  have HC := Lib.hid hc; clear hc
  have HF := Lib.hid hf; clear hf
  have hw := wordOf_bd F HF.out 32
  have h2 : (2 : Int) ^ (8 * 32) = 2 ^ 256 := by decide
  rw [h2] at hw
  have okN : (fromN (wordOf F 32)).Ok := (fromN_right hw.1 hw.2).ok
  have hD : decide ((Fe.m (fromN (wordOf F 32)) : Int) = wordOf F 32) = true := by
    rw [fromN_m, decide_eq_true_iff]
    have := hw.1
    omega
  have HD := Lib.hid hD; clear hD hw h2 hlt
  go_enter Tryz.func7, Tryz.ntmps7
  go_upto_region 1 with (fail)
  have G : w0.grownBy (w0.alloc (.cells [Value.int IntKind.u64 0, Value.int IntKind.u64 0, Value.int IntKind.u64 0, Value.int IntKind.u64 0, Value.int IntKind.u64 0].toArray 27)) none := gb_alloc (gb_refl _ _) _
  have hR : Blk (w0.alloc (.cells [Value.int IntKind.u64 0, Value.int IntKind.u64 0, Value.int IntKind.u64 0, Value.int IntKind.u64 0, Value.int IntKind.u64 0].toArray 27)) (w0.heap.size) 27 [Value.int IntKind.u64 0, Value.int IntKind.u64 0, Value.int IntKind.u64 0, Value.int IntKind.u64 0, Value.int IntKind.u64 0] := Blk.new w0 [Value.int IntKind.u64 0, Value.int IntKind.u64 0, Value.int IntKind.u64 0, Value.int IntKind.u64 0, Value.int IntKind.u64 0] _
  revert G hR
  generalize w0.alloc (.cells [Value.int IntKind.u64 0, Value.int IntKind.u64 0, Value.int IntKind.u64 0, Value.int IntKind.u64 0, Value.int IntKind.u64 0].toArray 27) = W0
  intro G hR
  have Gs := G.size
  have HCW : Hid (∀ i, i < 32 → W0.cell? ⟨pb, po + i, none⟩ = some (.int .u8 (F i))) := Lib.hid (fun i hi => by rw [gb_cell G (p := ⟨pb, po + i, none⟩) hB (by simp)]; exact HC.out i hi)
  have G0x := G
  go_upto_region 3 with (fail)
  have Gs0 := G.size
  have l1hR := hR.lt
  refine Fg.wp_region_plain (ps := [4]) [.any, .any, .any, .any, .fresh 27 [Value.int IntKind.u64 0, Value.int IntKind.u64 0, Value.int IntKind.u64 0, Value.int IntKind.u64 0, Value.int IntKind.u64 0] W0.heap.size, .any, .any, .any, .any, .val (Value.slice (some ⟨pb, po, none⟩) 32 c), .val ((fromN (wordOf F 32)).v)] (fun w => World.grownBy W0 w none) 3 (gb_refl _ _) (by kernel_rfl) (by kernel_rfl) (by decide) (Fg.ptrs_undef (by kernel_rfl)) ?_ ?_
  · refine ⟨⟨⟨_, rfl⟩, Fg.valueP (fun _ _ h k => gb_trans h k) rfl (by decide) fun ac w h => ?_⟩, ?_⟩
    · have e0 : ac.tmps.getD 0 undef = Value.slice (some ⟨pb, po, none⟩) 32 c := h.rest 0 (by kernel_rfl)
      exact ⟨wants_none rfl, Value.slice (some ⟨pb, po, none⟩) 32 c, w, Fg.run_move rfl e0, gb_refl _ _, rfl⟩
    refine ⟨⟨⟨_, rfl⟩, Fg.callP (fun _ _ h k => gb_trans h k) rfl (by decide) fun ac w h => ?_⟩, ?_⟩
    · have e9 : ac.tmps.getD 9 undef = Value.slice (some ⟨pb, po, none⟩) 32 c := h.dep 9 (by kernel_rfl)
      refine ⟨wants_none rfl, 25, #[Value.slice (some ⟨pb, po, none⟩) 32 c], Fg.run_call rfl rfl (by simp only [List.map_toArray, List.map_cons, List.map_nil, Act.eval, e9]) (Fg.run_enter Tryz.func25 (by kernel_rfl) (by kernel_rfl)), ?_⟩
      exact ((ofBytes_at pb po c F _ h32 HF.out (fun i hi => by rw [gb_cell (gb_trans G0x h.base) (p := ⟨pb, po + i, none⟩) hB (by simp)]; exact HC.out i hi) (Nat.lt_of_lt_of_le hB (gb_trans G0x h.base).size)).mono fun _ _ h => feOut_is h).mono fun _ _ ⟨he, hg⟩ => ⟨_, he, hg, rfl⟩
    refine ⟨⟨⟨_, rfl⟩, Fg.allocP (fun _ _ h k => gb_trans h k) rfl (by show 4 < 18; decide) fun ac w h => ?_⟩, ?_⟩
    · refine ⟨wants_none rfl, w.alloc (.cells #[Value.int IntKind.u64 0, Value.int IntKind.u64 0, Value.int IntKind.u64 0, Value.int IntKind.u64 0, Value.int IntKind.u64 0] 27), ?_, World.grownBy_alloc _ _ _, by simp, ⟨w.heap.size, rfl, h.base.size, Blk.new w [Value.int IntKind.u64 0, Value.int IntKind.u64 0, Value.int IntKind.u64 0, Value.int IntKind.u64 0, Value.int IntKind.u64 0] _⟩⟩
      clear h
      go_simp
    trivial
  · intro qa V1 g1 hsz hdf hrest hslots hpt
    obtain ⟨N4, hs4, hn4, hb4⟩ : ∃ N, qa.tmps.getD 4 undef = .pointer (some ⟨N, 0, none⟩) ∧ W0.heap.size ≤ N ∧ Blk V1 N 27 [Value.int IntKind.u64 0, Value.int IntKind.u64 0, Value.int IntKind.u64 0, Value.int IntKind.u64 0, Value.int IntKind.u64 0] := hslots 4 (by kernel_rfl)
    obtain ⟨u9, hs9⟩ : ∃ u, qa.tmps.getD 9 undef = u := ⟨_, rfl⟩
    obtain ⟨x1, hx1⟩ : ∃ x : Fe, x = fromN (wordOf F 32) := ⟨_, rfl⟩
    obtain rfl := Fg.frame_is (a := qa) (vs := [Value.slice (some ⟨pb, po, none⟩) 32 c, undef, Value.pointer (some ⟨w0.heap.size, 0, none⟩), Value.bool false, Value.pointer (some ⟨N4, 0, none⟩), Value.slice (some ⟨pb, po, none⟩) 32 c, Value.int .i64 32, Value.bool false, undef, u9, x1.v, undef, undef, undef, undef, undef, undef, undef]) hsz ⟨hrest 0 (by kernel_rfl), hrest 1 (by kernel_rfl), hrest 2 (by kernel_rfl), hrest 3 (by kernel_rfl), hs4, hrest 5 (by kernel_rfl), hrest 6 (by kernel_rfl), hrest 7 (by kernel_rfl), hrest 8 (by kernel_rfl), hs9, (show qa.tmps.getD 10 undef = x1.v by rw [hx1]; exact hslots 10 (by kernel_rfl)), hrest 11 (by kernel_rfl), hrest 12 (by kernel_rfl), hrest 13 (by kernel_rfl), hrest 14 (by kernel_rfl), hrest 15 (by kernel_rfl), hrest 16 (by kernel_rfl), hrest 17 (by kernel_rfl), trivial⟩ hdf
    clear hsz hdf hrest hslots hpt hs4 hs9
    have Hx1 := Lib.hid hx1; clear hx1
    replace hR := hR.grown g1 (by simp)
    replace G := gb_trans G g1
    have okx1 : x1.Ok := by rw [Hx1.out]; exact okN
    have hw4 : w0.heap.size ≤ N4 := Nat.le_trans Gs0 hn4
    clear g1
    refine Fg.wpl_skip rfl rfl (Fg.run_store (cs := feL x1) rfl rfl rfl (hb4.there 0 5 (by show 0 + 5 ≤ 5; decide)) info_elem (feL_one _)) ?_
    replace hR := hR.setCells_other (C := N4) (cs := feL x1) 0 (by omega)
    replace hb4 : Blk (V1.setCells N4 0 (feL x1)) N4 27 (feL x1) := hb4.setAll rfl
    replace G := gb_setCells_new (cs := feL x1) G (B := N4) (hw4) 0
    revert hR hb4 G
    generalize V1.setCells N4 0 (feL x1) = W2
    intro hR hb4 G
    have G1x := G
    go_upto_region 4 with (fail)
    have Gs2 := G.size
    have l2hR := hR.lt
    have l2hb4 := hb4.lt
    refine Fg.wp_region_plain (ps := []) [.any, .any, .any, .any, .any, .any, .any, .any, .any, .any, .any, .val (x1.v), .row 57 (bytesV (Fe.m (x1))) 32 W2.heap.size, .val (Value.slice (some ⟨pb, po, none⟩) 32 c), .val (Value.bool true), .val (Value.bool false)] (fun w => World.grownBy W2 w none) 5 (gb_refl _ _) (by kernel_rfl) (by kernel_rfl) (by decide) (Fg.ptrs_undef (by kernel_rfl)) ?_ ?_
    · refine ⟨⟨⟨_, rfl⟩, Fg.valueP (fun _ _ h k => gb_trans h k) rfl (by decide) fun ac w h => ?_⟩, ?_⟩
      · have e4 : ac.tmps.getD 4 undef = Value.pointer (some ⟨N4, 0, none⟩) := h.rest 4 (by kernel_rfl)
        exact ⟨wants_none rfl, x1.v, w, Fg.run_load rfl e4 ((hb4.grown h.base (by simp)).range 0 (feL x1) rfl) Tryz.underlying27 rfl info_elem, gb_refl _ _, rfl⟩
      refine ⟨⟨⟨_, rfl⟩, Fg.callP (fun _ _ h k => gb_trans h k) rfl (by decide) fun ac w h => ?_⟩, ?_⟩
      · have e11 : ac.tmps.getD 11 undef = x1.v := h.dep 11 (by kernel_rfl)
        refine ⟨wants_none rfl, 12, #[x1.v], Fg.run_call rfl rfl (by simp only [List.map_toArray, List.map_cons, List.map_nil, Act.eval, e11]) (Fg.run_enter Tryz.func12 (by kernel_rfl) (by kernel_rfl)), ?_⟩
        exact (put_any _ _ okx1).mono fun _ _ ⟨NB, he, hg, hn, hb⟩ => ⟨_, he, hg, ⟨NB, rfl, Nat.le_trans h.base.size hn, hb⟩⟩
      refine ⟨⟨⟨_, rfl⟩, Fg.valueP (fun _ _ h k => gb_trans h k) rfl (by decide) fun ac w h => ?_⟩, ?_⟩
      · have e0 : ac.tmps.getD 0 undef = Value.slice (some ⟨pb, po, none⟩) 32 c := h.rest 0 (by kernel_rfl)
        exact ⟨wants_none rfl, Value.slice (some ⟨pb, po, none⟩) 32 c, w, Fg.run_move rfl e0, gb_refl _ _, rfl⟩
      refine ⟨⟨⟨_, rfl⟩, Fg.callP (fun _ _ h k => gb_trans h k) rfl (by decide) fun ac w h => ?_⟩, ?_⟩
      · obtain ⟨B12, e12, hn12, b12⟩ : ∃ N, ac.tmps.getD 12 undef = .slice (some ⟨N, 0, none⟩) 32 32 ∧ W2.heap.size ≤ N ∧ Blk w N 57 (bytesV (Fe.m (x1))) := h.dep 12 (by kernel_rfl)
        have e13 : ac.tmps.getD 13 undef = Value.slice (some ⟨pb, po, none⟩) 32 c := h.dep 13 (by kernel_rfl)
        refine ⟨wants_none rfl, 26, #[Value.slice (some ⟨B12, 0, none⟩) 32 32, Value.slice (some ⟨pb, po, none⟩) 32 c], Fg.run_call rfl rfl (by simp only [List.map_toArray, List.map_cons, List.map_nil, Act.eval, e12, e13]) (Fg.run_enter Tryz.func26 (by kernel_rfl) (by kernel_rfl)), ?_⟩
        exact (t_equal _ pb po c _ _ F _ HF.out (Int.natCast_nonneg _) (m_256 _) b12 (fun i hi => by rw [gb_cell (gb_trans G1x h.base) (p := ⟨pb, po + i, none⟩) hB (by simp)]; exact HC.out i hi) (by rw [Hx1.out]; exact HD.out)).mono fun _ _ ⟨he, hg⟩ => ⟨_, he, hg, rfl⟩
      refine ⟨⟨⟨_, rfl⟩, Fg.valueP (fun _ _ h k => gb_trans h k) rfl (by decide) fun ac w h => ?_⟩, ?_⟩
      · have e14 : ac.tmps.getD 14 undef = Value.bool true := h.dep 14 (by kernel_rfl)
        refine ⟨wants_none rfl, Value.bool false, w, ?_, gb_refl _ _, rfl⟩
        clear h
        simp only [execOp, Act.eval, e14]
        go_simp
      trivial
    · intro qa V3 g3 hsz hdf hrest hslots hpt
      obtain ⟨u11, hs11⟩ : ∃ u, qa.tmps.getD 11 undef = u := ⟨_, rfl⟩
      obtain ⟨u12, hs12⟩ : ∃ u, qa.tmps.getD 12 undef = u := ⟨_, rfl⟩
      obtain ⟨u13, hs13⟩ : ∃ u, qa.tmps.getD 13 undef = u := ⟨_, rfl⟩
      obtain ⟨u14, hs14⟩ : ∃ u, qa.tmps.getD 14 undef = u := ⟨_, rfl⟩
      obtain rfl := Fg.frame_is (a := qa) (vs := [Value.slice (some ⟨pb, po, none⟩) 32 c, undef, Value.pointer (some ⟨w0.heap.size, 0, none⟩), Value.bool false, Value.pointer (some ⟨N4, 0, none⟩), Value.slice (some ⟨pb, po, none⟩) 32 c, Value.int .i64 32, Value.bool false, undef, u9, x1.v, u11, u12, u13, u14, Value.bool false, undef, undef]) hsz ⟨hrest 0 (by kernel_rfl), hrest 1 (by kernel_rfl), hrest 2 (by kernel_rfl), hrest 3 (by kernel_rfl), hrest 4 (by kernel_rfl), hrest 5 (by kernel_rfl), hrest 6 (by kernel_rfl), hrest 7 (by kernel_rfl), hrest 8 (by kernel_rfl), hrest 9 (by kernel_rfl), hrest 10 (by kernel_rfl), hs11, hs12, hs13, hs14, (show qa.tmps.getD 15 undef = Value.bool false from hslots 15 (by kernel_rfl)), hrest 16 (by kernel_rfl), hrest 17 (by kernel_rfl), trivial⟩ hdf
      clear hsz hdf hrest hslots hpt hs11 hs12 hs13 hs14
      replace hR := hR.grown g3 (by simp)
      replace hb4 := hb4.grown g3 (by simp)
      replace G := gb_trans G g3
      clear g3
      go_upto_region 6 with (fail)
      have Gs3 := G.size
      have l3hR := hR.lt
      have l3hb4 := hb4.lt
      refine Fg.wp_region_plain (ps := []) [.any, .any, .any, .any, .any, .any, .any, .any, .any, .any, .any, .any, .any, .any, .any, .any, .any, .val (x1.v)] (fun w => World.grownBy V3 w none) 1 (gb_refl _ _) (by kernel_rfl) (by kernel_rfl) (by decide) (Fg.ptrs_undef (by kernel_rfl)) ?_ ?_
      · refine ⟨⟨⟨_, rfl⟩, Fg.valueP (fun _ _ h k => gb_trans h k) rfl (by decide) fun ac w h => ?_⟩, ?_⟩
        · have e4 : ac.tmps.getD 4 undef = Value.pointer (some ⟨N4, 0, none⟩) := h.rest 4 (by kernel_rfl)
          exact ⟨wants_none rfl, x1.v, w, Fg.run_load rfl e4 ((hb4.grown h.base (by simp)).range 0 (feL x1) rfl) Tryz.underlying27 rfl info_elem, gb_refl _ _, rfl⟩
        trivial
      · intro qa V4 g4 hsz hdf hrest hslots hpt
        obtain rfl := Fg.frame_is (a := qa) (vs := [Value.slice (some ⟨pb, po, none⟩) 32 c, undef, Value.pointer (some ⟨w0.heap.size, 0, none⟩), Value.bool false, Value.pointer (some ⟨N4, 0, none⟩), Value.slice (some ⟨pb, po, none⟩) 32 c, Value.int .i64 32, Value.bool false, undef, u9, x1.v, u11, u12, u13, u14, Value.bool false, undef, x1.v]) hsz ⟨hrest 0 (by kernel_rfl), hrest 1 (by kernel_rfl), hrest 2 (by kernel_rfl), hrest 3 (by kernel_rfl), hrest 4 (by kernel_rfl), hrest 5 (by kernel_rfl), hrest 6 (by kernel_rfl), hrest 7 (by kernel_rfl), hrest 8 (by kernel_rfl), hrest 9 (by kernel_rfl), hrest 10 (by kernel_rfl), hrest 11 (by kernel_rfl), hrest 12 (by kernel_rfl), hrest 13 (by kernel_rfl), hrest 14 (by kernel_rfl), hrest 15 (by kernel_rfl), hrest 16 (by kernel_rfl), (show qa.tmps.getD 17 undef = x1.v from hslots 17 (by kernel_rfl)), trivial⟩ hdf
        clear hsz hdf hrest hslots hpt
        replace hR := hR.grown g4 (by simp)
        replace hb4 := hb4.grown g4 (by simp)
        replace G := gb_trans G g4
        clear g4
        refine Fg.wpl_skip rfl rfl (Fg.run_store (cs := feL x1) rfl rfl rfl (hR.there 0 5 (by show 0 + 5 ≤ 5; decide)) info_elem (feL_one _)) ?_
        replace hR : Blk (V4.setCells w0.heap.size 0 (feL x1)) w0.heap.size 27 (feL x1) := hR.setAll rfl
        replace hb4 := hb4.setCells_other (C := w0.heap.size) (cs := feL x1) 0 (by omega)
        replace G := gb_setCells_new (cs := feL x1) G (B := w0.heap.size) (by omega) 0
        revert hR hb4 G
        generalize V4.setCells w0.heap.size 0 (feL x1) = W5
        intro hR hb4 G
        go_wp2_with fail
        have hx1 := Hx1.out; subst hx1
        exact bodyPost_ret (v := .tuple #[(fromN (wordOf F 32)).v, .bool true]) (results_row_tmp Tryz.results7 _ _ w0.heap.size 27 (feL (fromN (wordOf F 32))).toArray (0, 0) _ rfl hR Tryz.underlying27 rfl info_elem rfl) rfl ⟨rfl, G⟩
set_option maxRecDepth 100000 in
set_option maxHeartbeats 3200000 in
theorem fget_no (pb po c : Nat) (F : Nat → Int) (w0 : World) (h32 : 32 ≤ c) (hf : ∀ i, 0 ≤ F i ∧ F i < 256) (hc : ∀ i, i < 32 → w0.cell? ⟨pb, po + i, none⟩ = some (.int .u8 (F i))) (hB : pb < w0.heap.size) (hlt : 57896044618658097711785492504343953926634992332820282019728792003956564819949 ≤ wordOf F 32) :
    Calls Tryz.prog 7 #[.slice (some ⟨pb, po, none⟩) 32 c] w0 fun e w' => e = .returned (.tuple #[(Fe.zeroF).v, .bool false]) ∧ w0.grownBy w' none := by
  have HC := Lib.hid hc; clear hc
  have HF := Lib.hid hf; clear hf
  have hw := wordOf_bd F HF.out 32
  have h2 : (2 : Int) ^ (8 * 32) = 2 ^ 256 := by decide
  rw [h2] at hw
  have okN : (fromN (wordOf F 32)).Ok := (fromN_right hw.1 hw.2).ok
  have hD : decide ((Fe.m (fromN (wordOf F 32)) : Int) = wordOf F 32) = false := by
    rw [fromN_m, decide_eq_false_iff_not]
    have := hw.1
    omega
  have HD := Lib.hid hD; clear hD hw h2 hlt
  go_enter Tryz.func7, Tryz.ntmps7
  go_upto_region 1 with (fail)
  have G : w0.grownBy (w0.alloc (.cells [Value.int IntKind.u64 0, Value.int IntKind.u64 0, Value.int IntKind.u64 0, Value.int IntKind.u64 0, Value.int IntKind.u64 0].toArray 27)) none := gb_alloc (gb_refl _ _) _
  have hR : Blk (w0.alloc (.cells [Value.int IntKind.u64 0, Value.int IntKind.u64 0, Value.int IntKind.u64 0, Value.int IntKind.u64 0, Value.int IntKind.u64 0].toArray 27)) (w0.heap.size) 27 [Value.int IntKind.u64 0, Value.int IntKind.u64 0, Value.int IntKind.u64 0, Value.int IntKind.u64 0, Value.int IntKind.u64 0] := Blk.new w0 [Value.int IntKind.u64 0, Value.int IntKind.u64 0, Value.int IntKind.u64 0, Value.int IntKind.u64 0, Value.int IntKind.u64 0] _
  revert G hR
  generalize w0.alloc (.cells [Value.int IntKind.u64 0, Value.int IntKind.u64 0, Value.int IntKind.u64 0, Value.int IntKind.u64 0, Value.int IntKind.u64 0].toArray 27) = W0
  intro G hR
  have Gs := G.size
  have HCW : Hid (∀ i, i < 32 → W0.cell? ⟨pb, po + i, none⟩ = some (.int .u8 (F i))) := Lib.hid (fun i hi => by rw [gb_cell G (p := ⟨pb, po + i, none⟩) hB (by simp)]; exact HC.out i hi)
  have G0x := G
  go_upto_region 3 with (fail)
  have Gs0 := G.size
  have l1hR := hR.lt
  refine Fg.wp_region_plain (ps := [4]) [.any, .any, .any, .any, .fresh 27 [Value.int IntKind.u64 0, Value.int IntKind.u64 0, Value.int IntKind.u64 0, Value.int IntKind.u64 0, Value.int IntKind.u64 0] W0.heap.size, .any, .any, .any, .any, .val (Value.slice (some ⟨pb, po, none⟩) 32 c), .val ((fromN (wordOf F 32)).v)] (fun w => World.grownBy W0 w none) 3 (gb_refl _ _) (by kernel_rfl) (by kernel_rfl) (by decide) (Fg.ptrs_undef (by kernel_rfl)) ?_ ?_
  · refine ⟨⟨⟨_, rfl⟩, Fg.valueP (fun _ _ h k => gb_trans h k) rfl (by decide) fun ac w h => ?_⟩, ?_⟩
    · have e0 : ac.tmps.getD 0 undef = Value.slice (some ⟨pb, po, none⟩) 32 c := h.rest 0 (by kernel_rfl)
      exact ⟨wants_none rfl, Value.slice (some ⟨pb, po, none⟩) 32 c, w, Fg.run_move rfl e0, gb_refl _ _, rfl⟩
    refine ⟨⟨⟨_, rfl⟩, Fg.callP (fun _ _ h k => gb_trans h k) rfl (by decide) fun ac w h => ?_⟩, ?_⟩
    · have e9 : ac.tmps.getD 9 undef = Value.slice (some ⟨pb, po, none⟩) 32 c := h.dep 9 (by kernel_rfl)
      refine ⟨wants_none rfl, 25, #[Value.slice (some ⟨pb, po, none⟩) 32 c], Fg.run_call rfl rfl (by simp only [List.map_toArray, List.map_cons, List.map_nil, Act.eval, e9]) (Fg.run_enter Tryz.func25 (by kernel_rfl) (by kernel_rfl)), ?_⟩
      exact ((ofBytes_at pb po c F _ h32 HF.out (fun i hi => by rw [gb_cell (gb_trans G0x h.base) (p := ⟨pb, po + i, none⟩) hB (by simp)]; exact HC.out i hi) (Nat.lt_of_lt_of_le hB (gb_trans G0x h.base).size)).mono fun _ _ h => feOut_is h).mono fun _ _ ⟨he, hg⟩ => ⟨_, he, hg, rfl⟩
    refine ⟨⟨⟨_, rfl⟩, Fg.allocP (fun _ _ h k => gb_trans h k) rfl (by show 4 < 18; decide) fun ac w h => ?_⟩, ?_⟩
    · refine ⟨wants_none rfl, w.alloc (.cells #[Value.int IntKind.u64 0, Value.int IntKind.u64 0, Value.int IntKind.u64 0, Value.int IntKind.u64 0, Value.int IntKind.u64 0] 27), ?_, World.grownBy_alloc _ _ _, by simp, ⟨w.heap.size, rfl, h.base.size, Blk.new w [Value.int IntKind.u64 0, Value.int IntKind.u64 0, Value.int IntKind.u64 0, Value.int IntKind.u64 0, Value.int IntKind.u64 0] _⟩⟩
      clear h
      go_simp
    trivial
  · intro qa V1 g1 hsz hdf hrest hslots hpt
    obtain ⟨N4, hs4, hn4, hb4⟩ : ∃ N, qa.tmps.getD 4 undef = .pointer (some ⟨N, 0, none⟩) ∧ W0.heap.size ≤ N ∧ Blk V1 N 27 [Value.int IntKind.u64 0, Value.int IntKind.u64 0, Value.int IntKind.u64 0, Value.int IntKind.u64 0, Value.int IntKind.u64 0] := hslots 4 (by kernel_rfl)
    obtain ⟨u9, hs9⟩ : ∃ u, qa.tmps.getD 9 undef = u := ⟨_, rfl⟩
    obtain ⟨x1, hx1⟩ : ∃ x : Fe, x = fromN (wordOf F 32) := ⟨_, rfl⟩
    obtain rfl := Fg.frame_is (a := qa) (vs := [Value.slice (some ⟨pb, po, none⟩) 32 c, undef, Value.pointer (some ⟨w0.heap.size, 0, none⟩), Value.bool false, Value.pointer (some ⟨N4, 0, none⟩), Value.slice (some ⟨pb, po, none⟩) 32 c, Value.int .i64 32, Value.bool false, undef, u9, x1.v, undef, undef, undef, undef, undef, undef, undef]) hsz ⟨hrest 0 (by kernel_rfl), hrest 1 (by kernel_rfl), hrest 2 (by kernel_rfl), hrest 3 (by kernel_rfl), hs4, hrest 5 (by kernel_rfl), hrest 6 (by kernel_rfl), hrest 7 (by kernel_rfl), hrest 8 (by kernel_rfl), hs9, (show qa.tmps.getD 10 undef = x1.v by rw [hx1]; exact hslots 10 (by kernel_rfl)), hrest 11 (by kernel_rfl), hrest 12 (by kernel_rfl), hrest 13 (by kernel_rfl), hrest 14 (by kernel_rfl), hrest 15 (by kernel_rfl), hrest 16 (by kernel_rfl), hrest 17 (by kernel_rfl), trivial⟩ hdf
    clear hsz hdf hrest hslots hpt hs4 hs9
    have Hx1 := Lib.hid hx1; clear hx1
    replace hR := hR.grown g1 (by simp)
    replace G := gb_trans G g1
    have okx1 : x1.Ok := by rw [Hx1.out]; exact okN
    have hw4 : w0.heap.size ≤ N4 := Nat.le_trans Gs0 hn4
    clear g1
    refine Fg.wpl_skip rfl rfl (Fg.run_store (cs := feL x1) rfl rfl rfl (hb4.there 0 5 (by show 0 + 5 ≤ 5; decide)) info_elem (feL_one _)) ?_
    replace hR := hR.setCells_other (C := N4) (cs := feL x1) 0 (by omega)
    replace hb4 : Blk (V1.setCells N4 0 (feL x1)) N4 27 (feL x1) := hb4.setAll rfl
    replace G := gb_setCells_new (cs := feL x1) G (B := N4) (hw4) 0
    revert hR hb4 G
    generalize V1.setCells N4 0 (feL x1) = W2
    intro hR hb4 G
    have G1x := G
    go_upto_region 4 with (fail)
    have Gs2 := G.size
    have l2hR := hR.lt
    have l2hb4 := hb4.lt
    refine Fg.wp_region_plain (ps := []) [.any, .any, .any, .any, .any, .any, .any, .any, .any, .any, .any, .val (x1.v), .row 57 (bytesV (Fe.m (x1))) 32 W2.heap.size, .val (Value.slice (some ⟨pb, po, none⟩) 32 c), .val (Value.bool false), .val (Value.bool true)] (fun w => World.grownBy W2 w none) 5 (gb_refl _ _) (by kernel_rfl) (by kernel_rfl) (by decide) (Fg.ptrs_undef (by kernel_rfl)) ?_ ?_
    · refine ⟨⟨⟨_, rfl⟩, Fg.valueP (fun _ _ h k => gb_trans h k) rfl (by decide) fun ac w h => ?_⟩, ?_⟩
      · have e4 : ac.tmps.getD 4 undef = Value.pointer (some ⟨N4, 0, none⟩) := h.rest 4 (by kernel_rfl)
        exact ⟨wants_none rfl, x1.v, w, Fg.run_load rfl e4 ((hb4.grown h.base (by simp)).range 0 (feL x1) rfl) Tryz.underlying27 rfl info_elem, gb_refl _ _, rfl⟩
      refine ⟨⟨⟨_, rfl⟩, Fg.callP (fun _ _ h k => gb_trans h k) rfl (by decide) fun ac w h => ?_⟩, ?_⟩
      · have e11 : ac.tmps.getD 11 undef = x1.v := h.dep 11 (by kernel_rfl)
        refine ⟨wants_none rfl, 12, #[x1.v], Fg.run_call rfl rfl (by simp only [List.map_toArray, List.map_cons, List.map_nil, Act.eval, e11]) (Fg.run_enter Tryz.func12 (by kernel_rfl) (by kernel_rfl)), ?_⟩
        exact (put_any _ _ okx1).mono fun _ _ ⟨NB, he, hg, hn, hb⟩ => ⟨_, he, hg, ⟨NB, rfl, Nat.le_trans h.base.size hn, hb⟩⟩
      refine ⟨⟨⟨_, rfl⟩, Fg.valueP (fun _ _ h k => gb_trans h k) rfl (by decide) fun ac w h => ?_⟩, ?_⟩
      · have e0 : ac.tmps.getD 0 undef = Value.slice (some ⟨pb, po, none⟩) 32 c := h.rest 0 (by kernel_rfl)
        exact ⟨wants_none rfl, Value.slice (some ⟨pb, po, none⟩) 32 c, w, Fg.run_move rfl e0, gb_refl _ _, rfl⟩
      refine ⟨⟨⟨_, rfl⟩, Fg.callP (fun _ _ h k => gb_trans h k) rfl (by decide) fun ac w h => ?_⟩, ?_⟩
      · obtain ⟨B12, e12, hn12, b12⟩ : ∃ N, ac.tmps.getD 12 undef = .slice (some ⟨N, 0, none⟩) 32 32 ∧ W2.heap.size ≤ N ∧ Blk w N 57 (bytesV (Fe.m (x1))) := h.dep 12 (by kernel_rfl)
        have e13 : ac.tmps.getD 13 undef = Value.slice (some ⟨pb, po, none⟩) 32 c := h.dep 13 (by kernel_rfl)
        refine ⟨wants_none rfl, 26, #[Value.slice (some ⟨B12, 0, none⟩) 32 32, Value.slice (some ⟨pb, po, none⟩) 32 c], Fg.run_call rfl rfl (by simp only [List.map_toArray, List.map_cons, List.map_nil, Act.eval, e12, e13]) (Fg.run_enter Tryz.func26 (by kernel_rfl) (by kernel_rfl)), ?_⟩
        exact (t_equal _ pb po c _ _ F _ HF.out (Int.natCast_nonneg _) (m_256 _) b12 (fun i hi => by rw [gb_cell (gb_trans G1x h.base) (p := ⟨pb, po + i, none⟩) hB (by simp)]; exact HC.out i hi) (by rw [Hx1.out]; exact HD.out)).mono fun _ _ ⟨he, hg⟩ => ⟨_, he, hg, rfl⟩
      refine ⟨⟨⟨_, rfl⟩, Fg.valueP (fun _ _ h k => gb_trans h k) rfl (by decide) fun ac w h => ?_⟩, ?_⟩
      · have e14 : ac.tmps.getD 14 undef = Value.bool false := h.dep 14 (by kernel_rfl)
        refine ⟨wants_none rfl, Value.bool true, w, ?_, gb_refl _ _, rfl⟩
        clear h
        simp only [execOp, Act.eval, e14]
        go_simp
      trivial
    · intro qa V3 g3 hsz hdf hrest hslots hpt
      obtain ⟨u11, hs11⟩ : ∃ u, qa.tmps.getD 11 undef = u := ⟨_, rfl⟩
      obtain ⟨u12, hs12⟩ : ∃ u, qa.tmps.getD 12 undef = u := ⟨_, rfl⟩
      obtain ⟨u13, hs13⟩ : ∃ u, qa.tmps.getD 13 undef = u := ⟨_, rfl⟩
      obtain ⟨u14, hs14⟩ : ∃ u, qa.tmps.getD 14 undef = u := ⟨_, rfl⟩
      obtain rfl := Fg.frame_is (a := qa) (vs := [Value.slice (some ⟨pb, po, none⟩) 32 c, undef, Value.pointer (some ⟨w0.heap.size, 0, none⟩), Value.bool false, Value.pointer (some ⟨N4, 0, none⟩), Value.slice (some ⟨pb, po, none⟩) 32 c, Value.int .i64 32, Value.bool false, undef, u9, x1.v, u11, u12, u13, u14, Value.bool true, undef, undef]) hsz ⟨hrest 0 (by kernel_rfl), hrest 1 (by kernel_rfl), hrest 2 (by kernel_rfl), hrest 3 (by kernel_rfl), hrest 4 (by kernel_rfl), hrest 5 (by kernel_rfl), hrest 6 (by kernel_rfl), hrest 7 (by kernel_rfl), hrest 8 (by kernel_rfl), hrest 9 (by kernel_rfl), hrest 10 (by kernel_rfl), hs11, hs12, hs13, hs14, (show qa.tmps.getD 15 undef = Value.bool true from hslots 15 (by kernel_rfl)), hrest 16 (by kernel_rfl), hrest 17 (by kernel_rfl), trivial⟩ hdf
      clear hsz hdf hrest hslots hpt hs11 hs12 hs13 hs14
      replace hR := hR.grown g3 (by simp)
      replace hb4 := hb4.grown g3 (by simp)
      replace G := gb_trans G g3
      clear g3
      go_upto_region 5 with (fail)
      have Gs3 := G.size
      have l3hR := hR.lt
      have l3hb4 := hb4.lt
      refine Fg.wp_region_plain (ps := []) [.any, .any, .any, .any, .any, .any, .any, .any, .any, .any, .any, .any, .any, .any, .any, .any, .val (Fe.zeroF.v)] (fun w => World.grownBy V3 w none) 1 (gb_refl _ _) (by kernel_rfl) (by kernel_rfl) (by decide) (Fg.ptrs_undef (by kernel_rfl)) ?_ ?_
      · refine ⟨⟨⟨_, rfl⟩, Fg.valueP (fun _ _ h k => gb_trans h k) rfl (by decide) fun ac w h => ?_⟩, ?_⟩
        · exact ⟨wants_none rfl, Fe.zeroF.v, w, Fg.run_build (vs := #[]) rfl (by simp) (by kernel_rfl), gb_refl _ _, rfl⟩
        trivial
      · intro qa V4 g4 hsz hdf hrest hslots hpt
        obtain rfl := Fg.frame_is (a := qa) (vs := [Value.slice (some ⟨pb, po, none⟩) 32 c, undef, Value.pointer (some ⟨w0.heap.size, 0, none⟩), Value.bool false, Value.pointer (some ⟨N4, 0, none⟩), Value.slice (some ⟨pb, po, none⟩) 32 c, Value.int .i64 32, Value.bool false, undef, u9, x1.v, u11, u12, u13, u14, Value.bool true, Fe.zeroF.v, undef]) hsz ⟨hrest 0 (by kernel_rfl), hrest 1 (by kernel_rfl), hrest 2 (by kernel_rfl), hrest 3 (by kernel_rfl), hrest 4 (by kernel_rfl), hrest 5 (by kernel_rfl), hrest 6 (by kernel_rfl), hrest 7 (by kernel_rfl), hrest 8 (by kernel_rfl), hrest 9 (by kernel_rfl), hrest 10 (by kernel_rfl), hrest 11 (by kernel_rfl), hrest 12 (by kernel_rfl), hrest 13 (by kernel_rfl), hrest 14 (by kernel_rfl), hrest 15 (by kernel_rfl), (show qa.tmps.getD 16 undef = Fe.zeroF.v from hslots 16 (by kernel_rfl)), hrest 17 (by kernel_rfl), trivial⟩ hdf
        clear hsz hdf hrest hslots hpt
        replace hR := hR.grown g4 (by simp)
        replace hb4 := hb4.grown g4 (by simp)
        replace G := gb_trans G g4
        clear g4
        refine Fg.wpl_skip rfl rfl (Fg.run_store (cs := feL Fe.zeroF) rfl rfl rfl (hR.there 0 5 (by show 0 + 5 ≤ 5; decide)) info_elem (feL_one _)) ?_
        replace hR : Blk (V4.setCells w0.heap.size 0 (feL Fe.zeroF)) w0.heap.size 27 (feL Fe.zeroF) := hR.setAll rfl
        replace hb4 := hb4.setCells_other (C := w0.heap.size) (cs := feL Fe.zeroF) 0 (by omega)
        replace G := gb_setCells_new (cs := feL Fe.zeroF) G (B := w0.heap.size) (by omega) 0
        revert hR hb4 G
        generalize V4.setCells w0.heap.size 0 (feL Fe.zeroF) = W5
        intro hR hb4 G
        go_wp2_with fail
        exact bodyPost_ret (v := .tuple #[Fe.zeroF.v, .bool false]) (results_row_tmp Tryz.results7 _ _ w0.heap.size 27 (feL Fe.zeroF).toArray (0, 0) _ rfl hR Tryz.underlying27 rfl info_elem rfl) rfl ⟨rfl, G⟩
set_option maxRecDepth 100000 in
set_option maxHeartbeats 3200000 in
theorem fget_len (a : Option Addr) (n c : Nat) (w0 : World) (h2 : ((n : Int) != 32) = true) :
    Calls Tryz.prog 7 #[.slice a n c] w0 fun e w' => e = .returned (.tuple #[Fe.zeroF.v, .bool false]) ∧ w0.grownBy w' none := by
  go_enter Tryz.func7, Tryz.ntmps7
  go_upto_region 1 with (fail)
  have G : w0.grownBy (w0.alloc (.cells [Value.int IntKind.u64 0, Value.int IntKind.u64 0, Value.int IntKind.u64 0, Value.int IntKind.u64 0, Value.int IntKind.u64 0].toArray 27)) none := gb_alloc (gb_refl _ _) _
  have hR : Blk (w0.alloc (.cells [Value.int IntKind.u64 0, Value.int IntKind.u64 0, Value.int IntKind.u64 0, Value.int IntKind.u64 0, Value.int IntKind.u64 0].toArray 27)) (w0.heap.size) 27 [Value.int IntKind.u64 0, Value.int IntKind.u64 0, Value.int IntKind.u64 0, Value.int IntKind.u64 0, Value.int IntKind.u64 0] := Blk.new w0 [Value.int IntKind.u64 0, Value.int IntKind.u64 0, Value.int IntKind.u64 0, Value.int IntKind.u64 0, Value.int IntKind.u64 0] _
  revert G hR
  generalize w0.alloc (.cells [Value.int IntKind.u64 0, Value.int IntKind.u64 0, Value.int IntKind.u64 0, Value.int IntKind.u64 0, Value.int IntKind.u64 0].toArray 27) = W0
  intro G hR
  have Gs := G.size
  go_upto_region 2 with (fail)
  have Gs0 := G.size
  have l1hR := hR.lt
  refine Fg.wp_region_plain (ps := []) [.any, .any, .any, .any, .any, .any, .any, .any, .val (Fe.zeroF.v)] (fun w => World.grownBy W0 w none) 1 (gb_refl _ _) (by kernel_rfl) (by kernel_rfl) (by decide) (Fg.ptrs_undef (by kernel_rfl)) ?_ ?_
  · refine ⟨⟨⟨_, rfl⟩, Fg.valueP (fun _ _ h k => gb_trans h k) rfl (by decide) fun ac w h => ?_⟩, ?_⟩
    · exact ⟨wants_none rfl, Fe.zeroF.v, w, Fg.run_build (vs := #[]) rfl (by simp) (by kernel_rfl), gb_refl _ _, rfl⟩
    trivial
  · intro qa V1 g1 hsz hdf hrest hslots hpt
    obtain rfl := Fg.frame_is (a := qa) (vs := [Value.slice a n c, undef, Value.pointer (some ⟨w0.heap.size, 0, none⟩), Value.bool false, undef, Value.slice a n c, Value.int .i64 (n : Int), Value.bool true, Fe.zeroF.v, undef, undef, undef, undef, undef, undef, undef, undef, undef]) hsz ⟨hrest 0 (by kernel_rfl), hrest 1 (by kernel_rfl), hrest 2 (by kernel_rfl), hrest 3 (by kernel_rfl), hrest 4 (by kernel_rfl), hrest 5 (by kernel_rfl), hrest 6 (by kernel_rfl), hrest 7 (by kernel_rfl), (show qa.tmps.getD 8 undef = Fe.zeroF.v from hslots 8 (by kernel_rfl)), hrest 9 (by kernel_rfl), hrest 10 (by kernel_rfl), hrest 11 (by kernel_rfl), hrest 12 (by kernel_rfl), hrest 13 (by kernel_rfl), hrest 14 (by kernel_rfl), hrest 15 (by kernel_rfl), hrest 16 (by kernel_rfl), hrest 17 (by kernel_rfl), trivial⟩ hdf
    clear hsz hdf hrest hslots hpt
    replace hR := hR.grown g1 (by simp)
    replace G := gb_trans G g1
    clear g1
    refine Fg.wpl_skip rfl rfl (Fg.run_store (cs := feL Fe.zeroF) rfl rfl rfl (hR.there 0 5 (by show 0 + 5 ≤ 5; decide)) info_elem (feL_one _)) ?_
    replace hR : Blk (V1.setCells w0.heap.size 0 (feL Fe.zeroF)) w0.heap.size 27 (feL Fe.zeroF) := hR.setAll rfl
    replace G := gb_setCells_new (cs := feL Fe.zeroF) G (B := w0.heap.size) (by omega) 0
    revert hR G
    generalize V1.setCells w0.heap.size 0 (feL Fe.zeroF) = W2
    intro hR G
    go_wp2_with fail
    exact bodyPost_ret (v := .tuple #[Fe.zeroF.v, .bool false]) (results_row_tmp Tryz.results7 _ _ w0.heap.size 27 (feL Fe.zeroF).toArray (0, 0) _ rfl hR Tryz.underlying27 rfl info_elem rfl) rfl ⟨rfl, G⟩

end Go.Proofs.YtcmnecnbcohaeaaGreatDoor

/- field: Get of any bytes, as the document's Read tells it. -/
namespace Go.Proofs.YtcmnecnbcohaeaaGreatDoor
open Go.RowKit Ns Ow
namespace Nr
theorem getP_any (n c B : Nat) (a : Option Addr) (p : List Nat) (w : World) (hn : p.length = n) (hP : BytesAt w B a c p) :
    Calls Tryz.prog 7 #[.slice a n c] w fun e w' => e = .returned (.tuple #[(if readB p = true then fromN (readV p : Int) else Fe.zeroF).v, .bool (readB p)]) ∧ w.grownBy w' none := by
  have hfit := hP.fits
  have hlim := hP.lim
  by_cases h32 : n = 32
  · subst h32
    obtain ⟨pb, po, rfl, hlt, hc⟩ := hP.cells.resolve_left (by omega)
    have hF : ∀ i, 0 ≤ ((p.getD i 0 : Nat) : Int) ∧ ((p.getD i 0 : Nat) : Int) < 256 := fun i => by have := hP.byte i; omega
    have hw := readV_word p
    have hPi : Fe.P = 57896044618658097711785492504343953926634992332820282019728792003956564819949 := rfl
    rcases Nat.lt_or_ge (readV p) Fe.P with h | h
    · have hb : readB p = true := by unfold readB; rw [hn, decide_eq_true h]; rfl
      rw [hb, if_pos rfl, hw]
      exact fget_yes pb po c _ w (by omega) hF (fun i hi => hc i (by omega)) (by omega) (by rw [← hw]; omega)
    · have hb : readB p = false := by unfold readB; rw [hn, decide_eq_false (Nat.not_lt.2 h)]; rfl
      rw [hb, if_neg (by decide)]
      exact fget_no pb po c _ w (by omega) hF (fun i hi => hc i (by omega)) (by omega) (by rw [← hw]; omega)
  · have hb : readB p = false := by unfold readB; rw [hn, decide_eq_false h32]; rfl
    rw [hb, if_neg (by decide)]
    exact fget_len a n c w (by simp; omega)
end Nr
end Go.Proofs.YtcmnecnbcohaeaaGreatDoor

/- The law FieldGets' walk. -/
namespace Go.Proofs.YtcmnecnbcohaeaaGreatDoor
open Go.RowKit Ns Ow
namespace Nr
theorem stG {ρ : Operand → Value} {o : Oper} {w : World} {x y : Operand} {B : Nat} {a : Fe} {L : List Value} (ho : o.op = .store 27 x y) (hx : ρ x = .pointer (some ⟨B, 0, none⟩)) (hy : ρ y = a.v) (h : Blk w B 27 L) (hL : L.length = 5) : (execOp ρ o).run Tryz.prog w = .ok .skip (w.setCells B 0 (feL a)) :=
  Fg.run_store ho hx hy (h.there 0 5 (by rw [hL]; decide)) info_elem5 rfl
theorem storedG {w : World} {B : Nat} {a : Fe} {L : List Value} (h : Blk w B 27 L) (hL : L.length = 5) : Blk (w.setCells B 0 (feL a)) B 27 (feL a) := h.setAll (by rw [hL]; rfl)
theorem varG (w : World) (a : Fe) : Blk ((w.alloc (.cells (feL Fe.zeroF).toArray 27)).setCells w.heap.size 0 (feL a)) w.heap.size 27 (feL a) ∧ w.grownBy ((w.alloc (.cells (feL Fe.zeroF).toArray 27)).setCells w.heap.size 0 (feL a)) none ∧ w.heap.size < ((w.alloc (.cells (feL Fe.zeroF).toArray 27)).setCells w.heap.size 0 (feL a)).heap.size := by
  have h := storedG (a := a) (Blk.new w (feL Fe.zeroF) 27) rfl
  exact ⟨h, gb_setCells_new (gb_alloc (gb_refl w none) _) (Nat.le_refl _) 0, h.lt⟩
theorem run_eqE0 {ρ : Operand → Value} {o : Oper} {w : World} {x y : Operand} {t : TypeId} (ho : o.op = .binOp .eql 27 x y t) (hx : ρ x = Fe.zeroF.v) (hy : ρ y = Fe.zeroF.v) : (execOp ρ o).run Tryz.prog w = .ok (.value (.bool true)) w := by
  obtain ⟨j, hj⟩ : ∃ i, Tryz.prog.info? 25 = some i := by
    cases h : Tryz.prog.info? 25 with
    | none => exact absurd h (by have : (Tryz.prog.info? 25).isSome = true := by kernel_rfl
                                 intro e; rw [e] at this; cases this)
    | some i => exact ⟨i, rfl⟩
  have hc : Tryz.prog.cellsOf 25 = 1 := by kernel_rfl
  have hg : ∀ i ∈ List.range 5, (#[Value.int .u64 0, .int .u64 0, .int .u64 0, .int .u64 0, .int .u64 0] : Array Value)[i * 1]? = some (.int .u64 ((fun _ => (0 : Int)) i)) := fun i hi => by
    have := List.mem_range.1 hi
    rcases i with _ | _ | _ | _ | _ | i <;> first | rfl | omega
  have h1 : (Op.equalIn 10000 27 (.agg #[.int .u64 0, .int .u64 0, .int .u64 0, .int .u64 0, .int .u64 0]) (.agg #[.int .u64 0, .int .u64 0, .int .u64 0, .int .u64 0, .int .u64 0])).run Tryz.prog w = .ok true w := by
    rw [run_equalIn_array w 9999 _ _ Tryz.underlying27 hj, hc, n_eqItems w 9998 (by kernel_rfl) Tryz.underlying25 (fun _ => 0) (fun _ => 0) _ _ _ hg hg]
    rfl
  have hgd : Tryz.prog.eqGuardType Tryz.prog.depth 27 = false := by kernel_rfl
  have g : (eqGuard .eql 27 x y (.agg #[.int .u64 0, .int .u64 0, .int .u64 0, .int .u64 0, .int .u64 0]) (.agg #[.int .u64 0, .int .u64 0, .int .u64 0, .int .u64 0, .int .u64 0])).run Tryz.prog w = .ok () w := by
    unfold eqGuard
    simp [hgd]
  unfold execOp
  simp only [ho, hx, hy, Fe.zeroF, Fe.v, Sem.run_bind, g, Result.andThen_ok, run_eql_struct, h1, Sem.run_pure]
/-- what is got, and what is read -/
structure GotIs (p : List Nat) (r : Fe) (v : List Nat) (ok : Bool) : Prop where
  ri : r.Right
  len : v.length = 16
  get : ∀ (n c B : Nat) (a : Option Addr) (w : World), p.length = n → BytesAt w B a c p → Calls Tryz.prog 7 #[.slice a n c] w fun e w' => e = .returned (.tuple #[r.v, .bool ok]) ∧ w.grownBy w' none
  read : ∀ (n c B : Nat) (a : Option Addr) (w : World), p.length = n → BytesAt w B a c p → Calls Tryz.prog 8 #[.slice a n c] w fun e w' => e = .returned (.tuple #[nV v, .bool ok]) ∧ w.grownBy w' none
  no : ok = false → r = Fe.zeroF
  yes : ok = true → p.length = 32 ∧ byL (num r.m) = p ∧ ∀ w, Calls Tryz.prog 10 #[r.v, nV v] w fun e w' => e = .returned (.bool true) ∧ w.grownBy w' none
theorem got_is {p : List Nat} (hb : ∀ i, p.getD i 0 < 256) : ∃ r v ok, GotIs p r v ok := by
  have g := fun n c B a w hn hP => getP_any n c B a p w hn hP
  have r := fun n c B a w hn hP => refRead_any n c B a p w hn hP
  cases h : readB p with
  | false =>
    unfold readR at r
    simp only [h] at g r
    exact ⟨Fe.zeroF, zeros, false, zero_right, rfl, fun n c B a w hn hP => g n c B a w hn hP, fun n c B a w hn hP => r n c B a w hn hP, fun _ => rfl, fun h => (by cases h)⟩
  | true =>
    unfold readR at r
    simp only [h, if_true] at g r
    have hh := h
    unfold readB at hh
    rw [Bool.and_eq_true, decide_eq_true_iff, decide_eq_true_iff] at hh
    have hP2 : Fe.P = 57896044618658097711785492504343953926634992332820282019728792003956564819949 := rfl
    have hR : (fromN (readV p : Int)).Right := fromN_right (by omega) (by omega)
    have hm : (fromN (readV p : Int)).m = readV p := by have := fromN_m (x := (readV p : Int)); omega
    refine ⟨fromN (readV p : Int), num (readV p), true, hR, num_len _, fun n c B a w hn hP => g n c B a w hn hP, fun n c B a w hn hP => r n c B a w hn hP, fun h => (by cases h), fun _ => ⟨hh.1, ?_, fun w => c_is _ _ w hR ?_⟩⟩
    · rw [hm, read_num hb hh.2, byL_pairL hb hh.1]
    · rw [hm, Nat.mod_eq_of_lt hh.2]
theorem gets_great (n c : Nat) (a : Option Addr) (w : World) (hT : FTab w) (h : 100 < n) :
    Calls Tryz.prog 3 #[.slice a n c] w fun e w' => e = .returned (.bool true) ∧ w.grownBy w' none := by
  have HW := Lib.hid (awake_any w hT); clear hT
  have i1 : (n : Int) > 100 := by omega
  clear h
  go_enter Tryz.func3, Tryz.ntmps3
  go_wp2_with fail
  refine HW.out.mono ?_
  rintro e w1 ⟨rfl, hg1⟩
  have HG := Lib.hid hg1; clear hg1 HW
  go_wp2
  go_ret
  exact ⟨rfl, HG.out⟩
theorem lent_bytes {f : Nat → Nat → Nat} {w : World} {g n : Nat} {p : List Nat} (hG : Blk w g 5 ((p ++ marksOf f 1 12).map u8N)) (hn : p.length = n) (hl : n ≤ 100000) (hb : ∀ i, p.getD i 0 < 256) : BytesAt w w.heap.size (some ⟨g, 0, none⟩) (n + 12) p := by
  refine ⟨Nat.le_refl _, by omega, by omega, hb, Or.inr ⟨g, 0, rfl, hG.lt, fun i hi => ?_⟩⟩
  rw [Nat.zero_add]
  refine hG.cell ?_
  rw [List.getElem?_map, List.getElem?_append_left hi, List.getD_eq_getElem?_getD, List.getElem?_eq_getElem hi]
  rfl
theorem put_lit {r : Fe} {p : List Nat} (h : r.Ok) (hp : byL (num r.m) = p) (w : World) : Calls Tryz.prog 12 #[r.v] w fun e w' => ∃ N, e = .returned (.slice (some ⟨N, 0, none⟩) 32 32) ∧ w.grownBy w' none ∧ w.heap.size ≤ N ∧ Blk w' N 57 (p.map u8N) := by
  have hb := bytesV_is r.m (by have := m_lt r; rw [P_is] at this; exact this)
  rw [hp] at hb
  refine (put_any r w h).mono ?_
  rintro e w' ⟨NB, rfl, hg, hn, hB⟩
  exact ⟨NB, rfl, hg, hn, by rw [← hb]; exact hB⟩
theorem put_row {r : Fe} {p : List Nat} {n0 : Nat} {w : World} (h : Calls Tryz.prog 12 #[r.v] w fun e w' => ∃ N, e = .returned (.slice (some ⟨N, 0, none⟩) 32 32) ∧ w.grownBy w' none ∧ w.heap.size ≤ N ∧ Blk w' N 57 (p.map u8N)) (hn0 : n0 ≤ w.heap.size) :
    Calls Tryz.prog 12 #[r.v] w fun e w' => ∃ v, e = .returned v ∧ w.grownBy w' none ∧ (∃ N, v = .slice (some ⟨N, 0, none⟩) 32 32 ∧ n0 ≤ N ∧ Blk w' N 57 (p.map u8N)) ∧ ∀ C, Fs.blkOf v = some C → w.heap.size ≤ C ∧ C < w'.heap.size := by
  refine h.mono ?_
  rintro e w' ⟨N, rfl, hg, hn, hb⟩
  exact ⟨_, rfl, hg, ⟨N, rfl, by omega, hb⟩, fun C e => by cases e; exact ⟨hn, hb.lt⟩⟩
theorem put_row0 {r : Fe} {p : List Nat} {n0 : Nat} {w : World} (h : Calls Tryz.prog 12 #[r.v] w fun e w' => ∃ N, e = .returned (.slice (some ⟨N, 0, none⟩) 32 32) ∧ w.grownBy w' none ∧ w.heap.size ≤ N ∧ Blk w' N 57 (p.map u8N)) (hn0 : n0 ≤ w.heap.size) :
    Calls Tryz.prog 12 #[r.v] w fun e w' => ∃ v, e = .returned v ∧ w.grownBy w' none ∧ (∃ N, v = .slice (some ⟨N, 0, none⟩) 32 32 ∧ n0 ≤ N ∧ Blk w' N 57 (p.map u8N)) :=
  (put_row h hn0).mono fun _ _ ⟨v, h1, h2, h3, _⟩ => ⟨v, h1, h2, h3⟩
theorem same_lit {p : List Nat} {a : Option Addr} {c B g : Nat} {T : TypeId} {w : World} (hl : p.length = 32) (h1 : Blk w g T (p.map u8N)) (h2 : BytesAt w B a c p) : Calls Tryz.prog 11 #[.slice (some ⟨g, 0, none⟩) 32 32, .slice a 32 c] w fun e w' => e = .returned (.bool true) ∧ w.grownBy w' none := by
  have := same_row p (some ⟨g, 0, none⟩) a 32 c w.heap.size B w ⟨Nat.le_refl _, by omega, by decide, h2.byte, Or.inr ⟨g, 0, rfl, h1.lt, fun i hi => by
    rw [Nat.zero_add]
    refine h1.cell ?_
    rw [List.getElem?_map, List.getD_eq_getElem?_getD, List.getElem?_eq_getElem hi]
    rfl⟩⟩ h2
  rwa [hl] at this
/-- a list of two rows that lie apart -/
def It2 (L : List Value) (n0 : Nat) : Fg.It := ⟨fun v w => ∃ N g1 g2, v = .slice (some ⟨N, 0, none⟩) 2 2 ∧ Blk w N 22 [.slice (some ⟨g1, 0, none⟩) 32 32, .slice (some ⟨g2, 0, none⟩) 32 32] ∧ (Blk w g1 57 L ∧ Blk w g2 57 L) ∧ (g1 ≠ g2 ∧ g1 ≠ N ∧ g2 ≠ N ∧ n0 ≤ g1 ∧ n0 ≤ g2),
  fun _ _ _ ⟨N, g1, g2, e, h, ⟨h1, h2⟩, h3⟩ hg => ⟨N, g1, g2, e, h.grown hg (by simp), ⟨h1.grown hg (by simp), h2.grown hg (by simp)⟩, h3⟩⟩
set_option maxRecDepth 100000 in
set_option maxHeartbeats 4000000 in
theorem gets_small {f : Nat → Nat → Nat} (hf : Marks f) (n c B : Nat) (a : Option Addr) (p : List Nat) (w : World) (hT : FTab w) (l1 : n ≤ 100) (h1 : p.length = n) (hP : BytesAt w B a c p) :
    Calls Tryz.prog 3 #[.slice a n c] w fun e w' => e = .returned (.bool true) ∧ w.grownBy w' none := by
  have i1 : ¬ (n : Int) > 100 := by omega
  have HF := Lib.hid hf
  have H : Hid (FTab w ∧ p.length = n ∧ BytesAt w B a c p ∧ n ≤ 100) := ⟨hT, h1, hP, l1⟩
  clear hf hT h1 hP l1
  go_enter Tryz.func3, Tryz.ntmps3
  go_wp2_with fail
  refine (lentB_any HF.out n c B p a w H.out.2.1 H.out.2.2.1 (by omega)).mono ?_
  rintro e w1 ⟨gx, rfl, hg1, hs1, hb1⟩
  have K1 := Lib.hid (And.intro hg1 (And.intro hs1 hb1)); clear hg1 hs1 hb1
  have HL : Hid (∀ w', w1.grownBy w' none → BytesAt w' w'.heap.size (some ⟨gx, 0, none⟩) (n + 12) p ∧ BytesAt w' B a c p ∧ FTab w') := fun w' hg => ⟨lent_bytes (K1.out.2.2.grown hg (by simp)) H.out.2.1 (by have := H.out.2.2.2; omega) H.out.2.2.1.byte, H.out.2.2.1.stay (gb_trans K1.out.1 hg), H.out.1.grown (gb_trans K1.out.1 hg)⟩
  have HK : Hid (∀ w', w1.grownBy w' none → Calls Tryz.prog 9 #[.slice (some ⟨gx, 0, none⟩) n (n + 12), .slice a n c] w' fun e w'' => e = .returned (.bool true) ∧ w'.grownBy w'' none) := fun w' hg => keptB_any HF.out n c B gx p a w' H.out.2.1 (HL.out w' hg).2.1 (by have := H.out.2.2.2; omega) (K1.out.2.2.grown hg (by simp))
  have HA : Hid (∀ w', w1.grownBy w' none → Calls Tryz.prog 5 #[] w' fun e w'' => e = .returned (.bool true) ∧ w'.grownBy w'' none) := fun w' hg => awake_any w' (HL.out w' hg).2.2
  obtain ⟨r, v, ok, hgot⟩ := got_is H.out.2.2.1.byte
  have HG := Lib.hid hgot; clear hgot
  go_upto_region 4 with (fail)
  refine wp_region_lit ?_
  refine Fg.wpl_value (v := .slice (some ⟨gx, 0, none⟩) n (n + 12)) (w' := w1) rfl (Fg.run_move rfl rfl) ?_
  simp only [Act.put, List.setIfInBounds_toArray, List.set_cons_succ, List.set_cons_zero]
  refine Fg.wpl_call rfl (Fg.run_call (vs := #[.slice (some ⟨gx, 0, none⟩) n (n + 12)]) rfl rfl (by simp only [List.map_toArray, List.map_cons, List.map_nil, Act.eval] <;> rfl) (Fg.run_enter Tryz.func7 (by kernel_rfl) (by kernel_rfl))) ?_
  refine (HG.out.get n _ _ _ w1 H.out.2.1 (HL.out w1 (gb_refl _ _)).1).mono ?_
  rintro e w2 ⟨rfl, gw2⟩
  refine ⟨_, rfl, ?_⟩
  simp only [Act.put, List.setIfInBounds_toArray, List.set_cons_succ, List.set_cons_zero]
  refine Fg.wpl_value (v := .tuple #[r.v, .bool ok]) (w' := w2) rfl (Fg.run_move rfl rfl) ?_
  simp only [Act.put, List.setIfInBounds_toArray, List.set_cons_succ, List.set_cons_zero]
  refine Fg.wpl_value (v := r.v) (w' := w2) rfl (by go_simp <;> rfl) ?_
  simp only [Act.put, List.setIfInBounds_toArray, List.set_cons_succ, List.set_cons_zero]
  refine Fg.wpl_value (v := .bool ok) (w' := w2) rfl (by go_simp <;> rfl) ?_
  simp only [Act.put, List.setIfInBounds_toArray, List.set_cons_succ, List.set_cons_zero]
  refine Fg.wpl_value (v := .pointer (some ⟨w2.heap.size, 0, none⟩)) (w' := w2.alloc (.cells (feL Fe.zeroF).toArray 27)) rfl (by go_simp; rfl) ?_
  simp only [Act.put, List.setIfInBounds_toArray, List.set_cons_succ, List.set_cons_zero]
  refine Fg.wpl_skip rfl rfl (stG (a := r) rfl rfl rfl (Blk.new w2 (feL Fe.zeroF) 27) rfl) ?_
  refine Fg.wpl_value (v := .bool ok) (w' := _) rfl (Fg.run_assign rfl rfl) ?_
  simp only [Act.put, List.setIfInBounds_toArray, List.set_cons_succ, List.set_cons_zero]
  refine wpList_nil ?_
  obtain ⟨h3, g3, s3⟩ := varG w2 r
  revert h3 g3 s3
  generalize World.setCells _ _ _ _ = w3
  intro h3 g3 s3
  have K3 := Lib.hid (And.intro (gb_trans gw2 g3) h3); clear g3 h3
  go_upto_region 5 with (fail)
  refine wp_region_lit ?_
  refine Fg.wpl_value (v := .slice a n c) (w' := w3) rfl (Fg.run_move rfl rfl) ?_
  simp only [Act.put, List.setIfInBounds_toArray, List.set_cons_succ, List.set_cons_zero]
  refine Fg.wpl_call rfl (Fg.run_call (vs := #[.slice a n c]) rfl rfl (by simp only [List.map_toArray, List.map_cons, List.map_nil, Act.eval] <;> rfl) (Fg.run_enter Tryz.func8 (by kernel_rfl) (by kernel_rfl))) ?_
  refine (HG.out.read n _ _ _ w3 H.out.2.1 (HL.out w3 K3.out.1).2.1).mono ?_
  rintro e w4 ⟨rfl, gw4⟩
  refine ⟨_, rfl, ?_⟩
  simp only [Act.put, List.setIfInBounds_toArray, List.set_cons_succ, List.set_cons_zero]
  refine Fg.wpl_value (v := .tuple #[nV v, .bool ok]) (w' := w4) rfl (Fg.run_move rfl rfl) ?_
  simp only [Act.put, List.setIfInBounds_toArray, List.set_cons_succ, List.set_cons_zero]
  refine Fg.wpl_value (v := nV v) (w' := w4) rfl (by go_simp <;> rfl) ?_
  simp only [Act.put, List.setIfInBounds_toArray, List.set_cons_succ, List.set_cons_zero]
  refine Fg.wpl_value (v := .bool ok) (w' := w4) rfl (by go_simp <;> rfl) ?_
  simp only [Act.put, List.setIfInBounds_toArray, List.set_cons_succ, List.set_cons_zero]
  refine Fg.wpl_value (v := .pointer (some ⟨w4.heap.size, 0, none⟩)) (w' := w4.alloc (.cells (pL zeros).toArray 31)) rfl (by go_simp; rfl) ?_
  simp only [Act.put, List.setIfInBounds_toArray, List.set_cons_succ, List.set_cons_zero]
  refine Fg.wpl_skip rfl rfl (st (l := v) rfl rfl rfl (new (w := w4) rfl zeros) rfl HG.out.len rfl) ?_
  refine Fg.wpl_value (v := .bool ok) (w' := _) rfl (Fg.run_assign rfl rfl) ?_
  simp only [Act.put, List.setIfInBounds_toArray, List.set_cons_succ, List.set_cons_zero]
  refine wpList_nil ?_
  obtain ⟨h5, g5, s5⟩ := var w4 v HG.out.len
  revert h5 g5 s5
  generalize World.setCells _ _ _ _ = w5
  intro h5 g5 s5
  have K5 := Lib.hid (And.intro (gb_trans (gb_trans K3.out.1 gw4) g5) (And.intro (K3.out.2.grown (gb_trans gw4 g5) (by simp)) h5)); clear g5 h5 gw4
  obtain ⟨N4, hN4⟩ : ∃ N4, N4 = w2.heap.size := ⟨_, rfl⟩
  obtain ⟨N6, hN6⟩ : ∃ N6, N6 = w4.heap.size := ⟨_, rfl⟩
  rw [← hN4] at K5 ⊢
  rw [← hN6] at K5 ⊢
  clear hN4 hN6 s3 s5 gw2 K3
  have hnn : (ok != ok) = false := by cases ok <;> rfl
  go_wp2_with fail
  refine (HK.out w5 K5.out.1).mono ?_
  rintro e w6 ⟨rfl, hg6⟩
  have K6 := Lib.hid (And.intro (gb_trans K5.out.1 hg6) (And.intro (K5.out.2.1.grown hg6 (by simp)) (K5.out.2.2.grown hg6 (by simp)))); clear hg6
  cases ok with
  | false =>
    obtain rfl := HG.out.no rfl
    go_upto_region 9 with (fail)
    refine wp_region_lit ?_
    refine Fg.wpl_value (v := Fe.zeroF.v) (w' := w6) rfl (ldE rfl rfl K6.out.2.1) ?_
    simp only [Act.put, List.setIfInBounds_toArray, List.set_cons_succ, List.set_cons_zero]
    refine Fg.wpl_value (v := Fe.zeroF.v) (w' := w6) rfl (by go_simp; rfl) ?_
    simp only [Act.put, List.setIfInBounds_toArray, List.set_cons_succ, List.set_cons_zero]
    refine Fg.wpl_value (v := .bool true) (w' := w6) rfl (run_eqE0 rfl rfl rfl) ?_
    simp only [Act.put, List.setIfInBounds_toArray, List.set_cons_succ, List.set_cons_zero]
    have K7 := Lib.hid K6.out.1; clear K6
    go_wp2_with fail
    refine (HA.out w6 K7.out).mono ?_
    rintro e w7 ⟨rfl, hg7⟩
    have K8 := Lib.hid (gb_trans (gb_trans K1.out.1 K7.out) hg7); clear hg7
    go_wp2
    go_ret
    exact ⟨rfl, K8.out⟩
  | true =>
    obtain ⟨hl32, hby, his⟩ := HG.out.yes rfl
    obtain rfl : n = 32 := by rw [← H.out.2.1]; exact hl32
    have HI := Lib.hid his; clear his
    have HPt := Lib.hid (put_lit HG.out.ri.ok hby)
    clear hby
    go_upto_region 10 with (fail)
    refine Fs.region_t [52, 54] [.any, .any, .any, .any, .any, .any, .any, .any, .any, .any, .any, .any, .any, .any, .any, .any, .any, .any, .any, .any, .any, .any, .any, .any, .any, .any, .any, .any, .any, .any, .any, .any, .any, .any, .any, .any, .any, .any, .any, .any, .any, .val (r.v), .val (nV v), .val (Value.bool true), .val (Value.bool true), .val (r.v), .row 57 (p.map u8N) 32 w6.heap.size, .val (Value.slice a 32 c), .val (Value.bool true), .val (Value.bool true), .val (Value.bool true), .val (r.v), .row 57 (p.map u8N) 32 w6.heap.size, .val (r.v), .row 57 (p.map u8N) 32 w6.heap.size, It2 (p.map u8N) w6.heap.size] w6 15 (gb_refl _ _) (by kernel_rfl) (by kernel_rfl) (by kernel_rfl) (by kernel_rfl) (by decide) (by kernel_rfl) ?_ ?_
    · refine ⟨Fs.vT rfl (by decide) fun ac w h => ?_, ?_⟩
      · have e4 : ac.tmps.getD 4 undef = Value.pointer (some ⟨N4, 0, none⟩) := h.rest 4 (by kernel_rfl)
        refine ⟨r.v, w, wants_none rfl, ?_, gb_refl _ _, rfl⟩
        exact ldE rfl e4 (K6.out.2.1.grown h.base (by simp))
      refine ⟨Fs.vT rfl (by decide) fun ac w h => ?_, ?_⟩
      · have e6 : ac.tmps.getD 6 undef = Value.pointer (some ⟨N6, 0, none⟩) := h.rest 6 (by kernel_rfl)
        refine ⟨nV v, w, wants_none rfl, ?_, gb_refl _ _, rfl⟩
        exact ld rfl e6 (K6.out.2.2.grown h.base (by simp)) HG.out.len rfl rfl
      refine ⟨Fs.cT rfl (by decide) fun ac w h => ?_, ?_⟩
      · have e41 : ac.tmps.getD 41 undef = r.v := h.dep 41 (by kernel_rfl)
        have e42 : ac.tmps.getD 42 undef = nV v := h.dep 42 (by kernel_rfl)
        refine ⟨10, #[r.v, nV v], wants_none rfl, Fg.run_call rfl rfl (by simp only [List.map_toArray, List.map_cons, List.map_nil, Act.eval, e41, e42]) (Fg.run_enter Tryz.func10 (by kernel_rfl) (by kernel_rfl)), ?_⟩
        exact (HI.out w).mono fun _ _ ⟨he, hg⟩ => ⟨_, he, hg, rfl⟩
      refine ⟨Fs.vT rfl (by decide) fun ac w h => ?_, ?_⟩
      · have e43 : ac.tmps.getD 43 undef = Value.bool true := h.dep 43 (by kernel_rfl)
        exact ⟨_, w, wants_none rfl, Fg.run_move rfl e43, gb_refl _ _, rfl⟩
      refine ⟨Fs.vT rfl (by decide) fun ac w h => ?_, ?_⟩
      · have e44 : ac.tmps.getD 44 undef = Value.bool true := h.dep 44 (by kernel_rfl)
        have e4 : ac.tmps.getD 4 undef = Value.pointer (some ⟨N4, 0, none⟩) := h.rest 4 (by kernel_rfl)
        refine ⟨r.v, w, wants_some (d := 44) rfl rfl (by rw [h.size]; show 44 < 61; decide) e44, ?_, gb_refl _ _, rfl⟩
        exact ldE rfl e4 (K6.out.2.1.grown h.base (by simp))
      refine ⟨Fs.cT rfl (by decide) fun ac w h => ?_, ?_⟩
      · have e44 : ac.tmps.getD 44 undef = Value.bool true := h.dep 44 (by kernel_rfl)
        have e45 : ac.tmps.getD 45 undef = r.v := h.dep 45 (by kernel_rfl)
        refine ⟨12, #[r.v], wants_some (d := 44) rfl rfl (by rw [h.size]; show 44 < 61; decide) e44, Fg.run_call rfl rfl (by simp only [List.map_toArray, List.map_cons, List.map_nil, Act.eval, e45]) (Fg.run_enter Tryz.func12 (by kernel_rfl) (by kernel_rfl)), ?_⟩
        exact (put_row0 (HPt.out w) h.base.size).mono fun _ _ ⟨v, he, hg, hb⟩ => ⟨v, he, hg, hb⟩
      refine ⟨Fs.vT rfl (by decide) fun ac w h => ?_, ?_⟩
      · have e44 : ac.tmps.getD 44 undef = Value.bool true := h.dep 44 (by kernel_rfl)
        have e0 : ac.tmps.getD 0 undef = Value.slice a 32 c := h.rest 0 (by kernel_rfl)
        exact ⟨_, w, wants_some (d := 44) rfl rfl (by rw [h.size]; show 44 < 61; decide) e44, Fg.run_move rfl e0, gb_refl _ _, rfl⟩
      refine ⟨Fs.cT rfl (by decide) fun ac w h => ?_, ?_⟩
      · have e44 : ac.tmps.getD 44 undef = Value.bool true := h.dep 44 (by kernel_rfl)
        obtain ⟨g46, e46, n46, b46⟩ : ∃ N, ac.tmps.getD 46 undef = .slice (some ⟨N, 0, none⟩) 32 32 ∧ w6.heap.size ≤ N ∧ Blk w N 57 (p.map u8N) := h.dep 46 (by kernel_rfl)
        have e47 : ac.tmps.getD 47 undef = Value.slice a 32 c := h.dep 47 (by kernel_rfl)
        refine ⟨11, #[Value.slice (some ⟨g46, 0, none⟩) 32 32, Value.slice a 32 c], wants_some (d := 44) rfl rfl (by rw [h.size]; show 44 < 61; decide) e44, Fg.run_call rfl rfl (by simp only [List.map_toArray, List.map_cons, List.map_nil, Act.eval, e46, e47]) (Fg.run_enter Tryz.func11 (by kernel_rfl) (by kernel_rfl)), ?_⟩
        exact (same_lit hl32 b46 (HL.out w (gb_trans K6.out.1 h.base)).2.1).mono fun _ _ ⟨he, hg⟩ => ⟨_, he, hg, rfl⟩
      refine ⟨Fs.vT rfl (by decide) fun ac w h => ?_, ?_⟩
      · have e44 : ac.tmps.getD 44 undef = Value.bool true := h.dep 44 (by kernel_rfl)
        have e48 : ac.tmps.getD 48 undef = Value.bool true := h.dep 48 (by kernel_rfl)
        refine ⟨Value.bool true, w, wants_none rfl, ?_, gb_refl _ _, rfl⟩
        clear h
        simp only [execOp, Act.eval, e44, e48]
        go_simp
      refine ⟨Fs.vT rfl (by decide) fun ac w h => ?_, ?_⟩
      · have e49 : ac.tmps.getD 49 undef = Value.bool true := h.dep 49 (by kernel_rfl)
        exact ⟨_, w, wants_none rfl, Fg.run_move rfl e49, gb_refl _ _, rfl⟩
      refine ⟨Fs.vT rfl (by decide) fun ac w h => ?_, ?_⟩
      · have e50 : ac.tmps.getD 50 undef = Value.bool true := h.dep 50 (by kernel_rfl)
        have e4 : ac.tmps.getD 4 undef = Value.pointer (some ⟨N4, 0, none⟩) := h.rest 4 (by kernel_rfl)
        refine ⟨r.v, w, wants_some (d := 50) rfl rfl (by rw [h.size]; show 50 < 61; decide) e50, ?_, gb_refl _ _, rfl⟩
        exact ldE rfl e4 (K6.out.2.1.grown h.base (by simp))
      refine ⟨Fs.cF rfl (by show 52 < 61; decide) fun ac w h => ?_, ?_⟩
      · have e50 : ac.tmps.getD 50 undef = Value.bool true := h.dep 50 (by kernel_rfl)
        have e51 : ac.tmps.getD 51 undef = r.v := h.dep 51 (by kernel_rfl)
        refine ⟨12, #[r.v], wants_some (d := 50) rfl rfl (by rw [h.size]; show 50 < 61; decide) e50, Fg.run_call rfl rfl (by simp only [List.map_toArray, List.map_cons, List.map_nil, Act.eval, e51]) (Fg.run_enter Tryz.func12 (by kernel_rfl) (by kernel_rfl)), ?_⟩
        exact (put_row (HPt.out w) h.base.size).mono fun _ _ ⟨v, he, hg, hb, hn⟩ => ⟨v, he, hg, hb, hn⟩
      refine ⟨Fs.vT rfl (by decide) fun ac w h => ?_, ?_⟩
      · have e50 : ac.tmps.getD 50 undef = Value.bool true := h.dep 50 (by kernel_rfl)
        have e4 : ac.tmps.getD 4 undef = Value.pointer (some ⟨N4, 0, none⟩) := h.rest 4 (by kernel_rfl)
        refine ⟨r.v, w, wants_some (d := 50) rfl rfl (by rw [h.size]; show 50 < 61; decide) e50, ?_, gb_refl _ _, rfl⟩
        exact ldE rfl e4 (K6.out.2.1.grown h.base (by simp))
      refine ⟨Fs.cF rfl (by show 54 < 61; decide) fun ac w h => ?_, ?_⟩
      · have e50 : ac.tmps.getD 50 undef = Value.bool true := h.dep 50 (by kernel_rfl)
        have e53 : ac.tmps.getD 53 undef = r.v := h.dep 53 (by kernel_rfl)
        refine ⟨12, #[r.v], wants_some (d := 50) rfl rfl (by rw [h.size]; show 50 < 61; decide) e50, Fg.run_call rfl rfl (by simp only [List.map_toArray, List.map_cons, List.map_nil, Act.eval, e53]) (Fg.run_enter Tryz.func12 (by kernel_rfl) (by kernel_rfl)), ?_⟩
        exact (put_row (HPt.out w) h.base.size).mono fun _ _ ⟨v, he, hg, hb, hn⟩ => ⟨v, he, hg, hb, hn⟩
      refine ⟨Fs.vT rfl (by decide) fun ac w h => ?_, ?_⟩
      · have e50 : ac.tmps.getD 50 undef = Value.bool true := h.dep 50 (by kernel_rfl)
        obtain ⟨g52, e52, n52, b52⟩ : ∃ N, ac.tmps.getD 52 undef = .slice (some ⟨N, 0, none⟩) 32 32 ∧ w6.heap.size ≤ N ∧ Blk w N 57 (p.map u8N) := h.dep 52 (by kernel_rfl)
        obtain ⟨g54, e54, n54, b54⟩ : ∃ N, ac.tmps.getD 54 undef = .slice (some ⟨N, 0, none⟩) 32 32 ∧ w6.heap.size ≤ N ∧ Blk w N 57 (p.map u8N) := h.dep 54 (by kernel_rfl)
        have dd : g52 ≠ g54 := fun e => ((h.ptrs 52 (by decide) g52 (by rw [e52]; rfl)).2 54 (by decide) (by decide)) (by rw [e54, e]; rfl)
        have z52 := b52.lt
        have z54 := b54.lt
        refine ⟨.slice (some ⟨w.heap.size, 0, none⟩) 2 2, (w.alloc (.cells #[.slice (some ⟨g52, 0, none⟩) 32 32, .slice (some ⟨g54, 0, none⟩) 32 32] 22)), wants_some (d := 50) rfl rfl (by rw [h.size]; show 50 < 61; decide) e50, ?_, gb_alloc (gb_refl _ _) _, ⟨w.heap.size, g52, g54, rfl, Blk.new w _ _, ⟨b52.grown (gb_alloc (gb_refl w none) _) (by simp), b54.grown (gb_alloc (gb_refl w none) _) (by simp)⟩, dd, by omega, by omega, n52, n54⟩⟩
        clear h
        simp only [execOp, Act.eval, e52, e54, List.map_toArray, List.map_cons, List.map_nil]
        go_simp
      trivial
    · intro aq wq hB hsz hdf hrest hslots hpt
      obtain ⟨u41, e41⟩ : ∃ u, aq.tmps.getD 41 undef = u := ⟨_, rfl⟩
      obtain ⟨u42, e42⟩ : ∃ u, aq.tmps.getD 42 undef = u := ⟨_, rfl⟩
      obtain ⟨u43, e43⟩ : ∃ u, aq.tmps.getD 43 undef = u := ⟨_, rfl⟩
      obtain ⟨u44, e44⟩ : ∃ u, aq.tmps.getD 44 undef = u := ⟨_, rfl⟩
      obtain ⟨u45, e45⟩ : ∃ u, aq.tmps.getD 45 undef = u := ⟨_, rfl⟩
      obtain ⟨u46, e46⟩ : ∃ u, aq.tmps.getD 46 undef = u := ⟨_, rfl⟩
      obtain ⟨u47, e47⟩ : ∃ u, aq.tmps.getD 47 undef = u := ⟨_, rfl⟩
      obtain ⟨u48, e48⟩ : ∃ u, aq.tmps.getD 48 undef = u := ⟨_, rfl⟩
      obtain ⟨u49, e49⟩ : ∃ u, aq.tmps.getD 49 undef = u := ⟨_, rfl⟩
      have e50 : aq.tmps.getD 50 undef = Value.bool true := hslots 50 (by kernel_rfl)
      obtain ⟨u51, e51⟩ : ∃ u, aq.tmps.getD 51 undef = u := ⟨_, rfl⟩
      obtain ⟨u52, e52⟩ : ∃ u, aq.tmps.getD 52 undef = u := ⟨_, rfl⟩
      obtain ⟨u53, e53⟩ : ∃ u, aq.tmps.getD 53 undef = u := ⟨_, rfl⟩
      obtain ⟨u54, e54⟩ : ∃ u, aq.tmps.getD 54 undef = u := ⟨_, rfl⟩
      obtain ⟨N55, ga55, gb55, e55, b55, c55, d55⟩ : ∃ N g1 g2, aq.tmps.getD 55 undef = .slice (some ⟨N, 0, none⟩) 2 2 ∧ Blk wq N 22 [.slice (some ⟨g1, 0, none⟩) 32 32, .slice (some ⟨g2, 0, none⟩) 32 32] ∧ (Blk wq g1 57 (p.map u8N) ∧ Blk wq g2 57 (p.map u8N)) ∧ (g1 ≠ g2 ∧ g1 ≠ N ∧ g2 ≠ N ∧ w6.heap.size ≤ g1 ∧ w6.heap.size ≤ g2) := hslots 55 (by kernel_rfl)
      obtain rfl := Fg.frame_is (a := aq) (vs := [Value.slice a 32 c, undef, Value.bool false, Value.slice (some ⟨gx, 0, none⟩) 32 44, Value.pointer (some ⟨N4, 0, none⟩), Value.bool true, Value.pointer (some ⟨N6, 0, none⟩), Value.bool true, Value.slice a 32 c, Value.int .i64 32, Value.bool false, undef, Value.slice a 32 c, Value.slice (some ⟨gx, 0, none⟩) 32 44, Value.tuple #[r.v, Value.bool true], Value.slice (some ⟨gx, 0, none⟩) 32 44, Value.tuple #[r.v, Value.bool true], r.v, Value.bool true, Value.tuple #[nV v, Value.bool true], Value.slice a 32 c, Value.tuple #[nV v, Value.bool true], nV v, Value.bool true, Value.bool true, Value.bool true, Value.bool false, Value.bool false, Value.slice (some ⟨gx, 0, none⟩) 32 44, Value.slice a 32 c, Value.bool true, Value.bool false, Value.bool false, Value.bool true, Value.bool false, undef, undef, undef, undef, undef, undef, u41, u42, u43, u44, u45, u46, u47, u48, u49, Value.bool true, u51, u52, u53, u54, Value.slice (some ⟨N55, 0, none⟩) 2 2, undef, undef, undef, undef, undef]) hsz ⟨hrest 0 (by kernel_rfl), hrest 1 (by kernel_rfl), hrest 2 (by kernel_rfl), hrest 3 (by kernel_rfl), hrest 4 (by kernel_rfl), hrest 5 (by kernel_rfl), hrest 6 (by kernel_rfl), hrest 7 (by kernel_rfl), hrest 8 (by kernel_rfl), hrest 9 (by kernel_rfl), hrest 10 (by kernel_rfl), hrest 11 (by kernel_rfl), hrest 12 (by kernel_rfl), hrest 13 (by kernel_rfl), hrest 14 (by kernel_rfl), hrest 15 (by kernel_rfl), hrest 16 (by kernel_rfl), hrest 17 (by kernel_rfl), hrest 18 (by kernel_rfl), hrest 19 (by kernel_rfl), hrest 20 (by kernel_rfl), hrest 21 (by kernel_rfl), hrest 22 (by kernel_rfl), hrest 23 (by kernel_rfl), hrest 24 (by kernel_rfl), hrest 25 (by kernel_rfl), hrest 26 (by kernel_rfl), hrest 27 (by kernel_rfl), hrest 28 (by kernel_rfl), hrest 29 (by kernel_rfl), hrest 30 (by kernel_rfl), hrest 31 (by kernel_rfl), hrest 32 (by kernel_rfl), hrest 33 (by kernel_rfl), hrest 34 (by kernel_rfl), hrest 35 (by kernel_rfl), hrest 36 (by kernel_rfl), hrest 37 (by kernel_rfl), hrest 38 (by kernel_rfl), hrest 39 (by kernel_rfl), hrest 40 (by kernel_rfl), e41, e42, e43, e44, e45, e46, e47, e48, e49, e50, e51, e52, e53, e54, e55, hrest 56 (by kernel_rfl), hrest 57 (by kernel_rfl), hrest 58 (by kernel_rfl), hrest 59 (by kernel_rfl), hrest 60 (by kernel_rfl), trivial⟩ hdf
      clear hsz hdf hrest hslots hpt e41 e42 e43 e44 e45 e46 e47 e48 e49 e50 e51 e52 e53 e54 e55
      have K7 := Lib.hid (gb_trans K6.out.1 hB)
      have z6 := (gb_trans K1.out.1 K6.out.1).size
      have hAp := apart2T HF.out w wq ga55 gb55 N55 32 32 57 57 (p.map u8N) (p.map u8N) (gb_trans K1.out.1 K7.out) b55 c55.1 c55.2 (by rw [List.length_map]; exact hl32) (by rw [List.length_map]; exact hl32) d55.1 d55.2.1 d55.2.2.1 ⟨by decide, by decide⟩ (by have := d55.2.2.2.1; omega) (by have := d55.2.2.2.2; omega)
      have HAp := Lib.hid hAp
      clear hAp b55 c55 d55 hB z6 K6
      go_wp2_with fail
      refine HAp.out.mono ?_
      rintro e w7 ⟨rfl, hg7⟩
      have K8 := Lib.hid hg7; clear hg7
      go_wp2_with fail
      refine (awake_any w7 (H.out.1.grown K8.out)).mono ?_
      rintro e w8 ⟨rfl, hg8⟩
      have K9 := Lib.hid (gb_trans K8.out hg8); clear hg8
      go_wp2
      go_ret
      exact ⟨rfl, K9.out⟩
theorem gets_any {f : Nat → Nat → Nat} (hf : Marks f) (n c B : Nat) (a : Option Addr) (p : List Nat) (w : World) (hT : FTab w) (h1 : p.length = n) (hP : BytesAt w B a c p) :
    Calls Tryz.prog 3 #[.slice a n c] w fun e w' => e = .returned (.bool true) ∧ w.grownBy w' none := by
  rcases Nat.lt_or_ge 100 n with h | h
  · exact gets_great n c a w hT h
  · exact gets_small hf n c B a p w hT h h1 hP
end Nr
end Go.Proofs.YtcmnecnbcohaeaaGreatDoor

/- A law's arguments: slices of bytes, numbers. -/
namespace Go.Proofs.YtcmnecnbcohaeaaGreatDoor
open Go.ChangeShapes Go.WideShapes Go.ChangeAt Go.RowKit Ow

theorem laidMet_tail {P : Program} {x : String × DataW Unit} {rest : List (String × DataW Unit)} {W : World} (h : laidMet P (x :: rest) W) : laidMet P rest W := by
  obtain ⟨ps, ⟨g, t, cs, fuel, p, q, _, _, _, _, hq, rfl⟩, hn, hc⟩ := h
  exact ⟨q, hq, (List.nodup_append.1 hn).2.1, fun b off hm => hc b off (List.mem_append_right _ hm)⟩
theorem own : ownKnob Tryz.prog.godebug = none := by kernel_rfl
theorem laidOut : laidOutB Tryz.prog = true := by kernel_rfl
/-- a list of integers as natural numbers -/
def nats (l : List Int) : List Nat := l.map Int.toNat
theorem bytes_arg {W : World} {x : Addr} {len cap : Nat} {zs : List Int} (ht : cap < 9223372036854775808) (hl : len ≤ cap) (hz : zs.length = cap) (hcell : ∀ i, i < zs.length → W.cell? (x.add i) = some (.int .u8 (zs.getD i 0))) (hw : ∀ n ∈ zs, (Lit.int .u8 n).wf = true) :
    BytesAt W W.heap.size (some x) cap (nats (zs.take len)) ∧ (nats (zs.take len)).length = len := by
  have hlen : (nats (zs.take len)).length = len := by simp [nats, hz]; omega
  have hbd : ∀ n ∈ zs, 0 ≤ n ∧ n < 256 := fun n hn => by
    have := hw n hn
    simp [Lit.wf, IntKind.min, IntKind.max, IntKind.signed, IntKind.bits] at this
    omega
  have hget : ∀ i, i < len → (((nats (zs.take len)).getD i 0 : Nat) : Int) = zs.getD i 0 := fun i hi => by
    have h1 : i < zs.length := by omega
    have := hbd zs[i] (List.getElem_mem h1)
    rw [List.getD_eq_getElem?_getD, List.getD_eq_getElem?_getD]
    unfold nats
    rw [List.getElem?_map, List.getElem?_take, if_pos hi, List.getElem?_eq_getElem h1]
    simp; omega
  refine ⟨⟨Nat.le_refl _, by omega, ht, fun i => ?_, ?_⟩, hlen⟩
  · by_cases hi : i < len
    · have h1 : i < zs.length := by omega
      have := hbd zs[i] (List.getElem_mem h1)
      have h2 := hget i hi
      rw [List.getD_eq_getElem?_getD (l := zs), List.getElem?_eq_getElem h1] at h2
      simp only [Option.getD_some] at h2
      omega
    · rw [List.getD_eq_getElem?_getD, List.getElem?_eq_none (by omega)]; decide
  · by_cases h0 : len = 0
    · exact Or.inl (by omega)
    · obtain ⟨b, off, spot⟩ := x
      have hc := hcell 0 (by omega)
      have hspot : spot = none := by simpa [Addr.add] using World.cell?_spot hc
      subst hspot
      have hadd : ∀ j, (⟨b, off, none⟩ : Addr).add j = ⟨b, off + j, none⟩ := fun j => by unfold Addr.add; split <;> simp_all
      have hlt : b < W.heap.size := block_lt_of_cell hc
      refine Or.inr ⟨b, off, rfl, hlt, fun i hi => ?_⟩
      rw [hlen] at hi
      have h3 := hcell i (by omega)
      rw [hadd, ← hget i hi] at h3
      exact h3

/-- an argument that is a slice of bytes -/
theorem bytes_open {H : Type} {enc : TypeId × Value → H} {W : World} {a : Option Addr} {len cap : Nat} {d : DataW H} {ps : List MemPlace} (h : DataW.Trod enc Tryz.prog W 0 (fun _ => true) true 22 (.slice a len cap) d ps) :
    ∃ p, p.length = len ∧ BytesAt W W.heap.size a cap p := by
  obtain ⟨fuel, hf⟩ := h
  rcases open_ints Tryz.underlying22 Tryz.underlying5 (by kernel_rfl) hf with ⟨hcs, _⟩ | ⟨x, l, c, zs, hcs, _, hl, hm, hz, _, hcell, hwz⟩
  · simp [Value.cells] at hcs
    obtain ⟨rfl, rfl, rfl⟩ := hcs
    exact ⟨[], rfl, ⟨Nat.le_refl _, Nat.le_refl _, by decide, by simp, Or.inl rfl⟩⟩
  · simp [Value.cells] at hcs
    obtain ⟨rfl, rfl, rfl⟩ := hcs
    unfold maxLen at hm
    have hb := bytes_arg (by omega) hl (by simpa using hz) hcell hwz
    exact ⟨_, hb.2, hb.1⟩
/-- how great it may be -/
theorem bytes_reach {H : Type} {enc : TypeId × Value → H} {W : World} {a : Option Addr} {len cap : Nat} {d : DataW H} {ps : List MemPlace} {ts : List TypeId} {ds : List (DataW H)} (h : DataW.Trod enc Tryz.prog W 0 (fun _ => true) true 22 (.slice a len cap) d ps)
    (hsz : (DataW.weightsEach Tryz.prog ts ds).all (· ≤ reachBytes) = true) {j : Nat} (ht : ts[j]? = some 22) (hd : ds[j]? = some d) : len ≤ cap ∧ cap ≤ 140737488351232 := by
  obtain ⟨fuel, hf⟩ := h
  rcases open_ints Tryz.underlying22 Tryz.underlying5 (by kernel_rfl) hf with ⟨hcs, _⟩ | ⟨x, l, c, zs, hcs, _, hl, _, hz, hx, _, _⟩
  · simp [Value.cells] at hcs
    obtain ⟨rfl, rfl, rfl⟩ := hcs
    exact ⟨Nat.le_refl _, by decide⟩
  · simp [Value.cells] at hcs
    obtain ⟨rfl, rfl, rfl⟩ := hcs
    have hz2 : zs.length = cap := by simpa using hz
    simp only [Prod.mk.injEq] at hx
    rw [hx.1] at hd
    have := sized_slice hsz ht hd Tryz.underlying22
    rw [show Tryz.prog.bytesOf 5 = 1 by kernel_rfl] at this
    simp only [lits, List.length_map, List.length_take, List.length_drop, reachBytes] at this
    omega
theorem int_wf {n : Int} (h : (Lit.int .i64 n).wf = true) : -9223372036854775808 ≤ n ∧ n ≤ 9223372036854775807 := by
  simp [Lit.wf, IntKind.min, IntKind.max, IntKind.signed, IntKind.bits] at h
  omega
end Go.Proofs.YtcmnecnbcohaeaaGreatDoor

/- field: what the rows' lists give: the package's two elements. And a law's argument that is an element. -/
namespace Go.Proofs.YtcmnecnbcohaeaaGreatDoor
open Go.ChangeShapes Go.WideShapes Go.ChangeAt Go.RowKit

def listF : List Int := [9007199254740916, 9007199254740988, 9007199254740988, 9007199254740988, 9007199254740988]
def listI : List Int := [1718705420411056, 234908883556509, 2233514472574048, 2117202627021982, 765476049583133]
theorem laid_is : [("buttress/field.fourTimesP", Rows.laid_buttress_field_fourTimesP), ("buttress/field.rootOfMinusOne", Rows.laid_buttress_field_rootOfMinusOne)] = [("buttress/field.fourTimesP", Lib.tabData (H := Unit) .u64 listF), ("buttress/field.rootOfMinusOne", Lib.tabData .u64 listI)] := by kernel_rfl
theorem tables {W : World} (h : laidMet Tryz.prog [("buttress/field.fourTimesP", Rows.laid_buttress_field_fourTimesP), ("buttress/field.rootOfMinusOne", Rows.laid_buttress_field_rootOfMinusOne)] W) : FTab W := by
  rw [laid_is] at h
  have g0 : Tryz.prog.globalNamed "buttress/field.fourTimesP" = some 1 := by kernel_rfl
  have g1 : Tryz.prog.globalNamed "buttress/field.rootOfMinusOne" = some 0 := by kernel_rfl
  have h0 := Lib.tabIs_of_head g0 (by kernel_rfl) Tryz.underlying27 Tryz.underlying25 (by kernel_rfl) (by kernel_rfl) h
  have h1 := Lib.tabIs_of_head g1 (by kernel_rfl) Tryz.underlying27 Tryz.underlying25 (by kernel_rfl) (by kernel_rfl) (laidMet_tail h)
  have hp : ∀ i, i < 5 → W.cell? ⟨1, i, none⟩ = some (.int .u64 (fourP i)) := fun i hi => by
    rw [h0.cell g0 i hi]
    obtain rfl | rfl | rfl | rfl | rfl : i = 0 ∨ i = 1 ∨ i = 2 ∨ i = 3 ∨ i = 4 := by omega
    all_goals rfl
  have hq : ∀ i, i < 5 → W.cell? ⟨0, i, none⟩ = some (.int .u64 (rootI.at i)) := fun i hi => by
    rw [h1.cell g1 i hi]
    obtain rfl | rfl | rfl | rfl | rfl : i = 0 ∨ i = 1 ∨ i = 2 ∨ i = 3 ∨ i = 4 := by omega
    all_goals rfl
  refine ⟨?_, hp, hq⟩
  have h2 := block_lt_of_cell (hp 0 (by decide))
  have h3 := block_lt_of_cell (hq 0 (by decide))
  simp only [] at h2 h3
  exact ⟨h2, h3⟩

/-- another row in a block -/
def putObj (l : List Int) : Obj → Obj
  | .cells _ t frozen => .cells (l.map (Value.int .u64)).toArray t frozen
  | o => o
/-- A WORLD FOR A WITNESS: the settled one, the two elements holding what their initialisers lay. -/
noncomputable def laidWorld (os : Os) : World :=
  { World.holding Tryz.prog os ⟨#[], #[], []⟩ with heap := ((World.holding Tryz.prog os ⟨#[], #[], []⟩).heap.modify 1 (putObj listF)).modify 0 (putObj listI) }
theorem okWide_array {P : Program} {w : World} {r : Reach} {base n : Nat} {t e : TypeId} {v : Value} (ht : P.underlying t = some (.array n e)) (h : Value.okWide P w r base t v) : ∃ cs, v = .agg cs ∧ cs.size = P.cellsOf t := by
  simp only [Value.okWide, ht] at h
  obtain ⟨cs, h1, h2, _⟩ := h
  exact ⟨cs, h1, h2⟩
set_option maxRecDepth 100000 in
/-- an argument that is an element -/
theorem elem_open {H : Type} {enc : TypeId × Value → H} {W : World} {base : Nat} {v : Value} {d : DataW H} {ps : List MemPlace} (hv : Value.okWide Tryz.prog W .any base 27 v) (h : DataW.Trod enc Tryz.prog W 0 (fun _ => true) true 27 v d ps) :
    ∃ x : Fe, x.Ok ∧ v = .agg #[.int .u64 x.x0, .int .u64 x.x1, .int .u64 x.x2, .int .u64 x.x3, .int .u64 x.x4] := by
  obtain ⟨cs, rfl, hsz⟩ := okWide_array Tryz.underlying27 hv
  have h5 : Tryz.prog.cellsOf 27 = 5 := by kernel_rfl
  have h1 : Tryz.prog.cellsOf 25 = 1 := by kernel_rfl
  obtain ⟨l⟩ := cs
  match l, hsz.trans h5 with
  | [c0, c1, c2, c3, c4], _ =>
    obtain ⟨fuel, hf⟩ := h
    obtain ⟨xs, m, _, _, _, hlen, hg⟩ := DataW.trod_array Tryz.underlying27 hf
    rw [h1] at hg
    match xs, hlen with
    | [y0, y1, y2, y3, y4], _ =>
      have e0 : DataW.trod enc Tryz.prog W 0 (fun _ => true) true m 25 [c0] = some y0 := hg 0 (by decide)
      have e1 : DataW.trod enc Tryz.prog W 0 (fun _ => true) true m 25 [c1] = some y1 := hg 1 (by decide)
      have e2 : DataW.trod enc Tryz.prog W 0 (fun _ => true) true m 25 [c2] = some y2 := hg 2 (by decide)
      have e3 : DataW.trod enc Tryz.prog W 0 (fun _ => true) true m 25 [c3] = some y3 := hg 3 (by decide)
      have e4 : DataW.trod enc Tryz.prog W 0 (fun _ => true) true m 25 [c4] = some y4 := hg 4 (by decide)
      obtain ⟨n0, q0, _, w0⟩ := DataW.trod_int Tryz.underlying25 e0
      obtain ⟨n1, q1, _, w1⟩ := DataW.trod_int Tryz.underlying25 e1
      obtain ⟨n2, q2, _, w2⟩ := DataW.trod_int Tryz.underlying25 e2
      obtain ⟨n3, q3, _, w3⟩ := DataW.trod_int Tryz.underlying25 e3
      obtain ⟨n4, q4, _, w4⟩ := DataW.trod_int Tryz.underlying25 e4
      simp only [List.cons.injEq, and_true] at q0 q1 q2 q3 q4
      subst q0; subst q1; subst q2; subst q3; subst q4
      simp [Lit.wf, IntKind.min, IntKind.max, IntKind.signed, IntKind.bits] at w0 w1 w2 w3 w4
      refine ⟨⟨n0, n1, n2, n3, n4⟩, ?_, rfl⟩
      constructor <;> simp only [] <;> omega
end Go.Proofs.YtcmnecnbcohaeaaGreatDoor
