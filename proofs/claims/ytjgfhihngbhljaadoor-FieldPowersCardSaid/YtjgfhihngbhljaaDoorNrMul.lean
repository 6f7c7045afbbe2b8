/- The document's field: Mul. -/
import Derived.Test.YtjgfhihngbhljaaDoorNrAdd
namespace Go.Proofs.YtjgfhihngbhljaaDoor
open Go.RowKit Ns
namespace Nr
/-- amid a product: behind i rows and k parts of the next -/
structure MulI (a b : List Nat) (i k : Nat) (l : List Nat) : Prop where
  len : l.length = 16
  val : V l % (2 ^ 255 - 19) = (V (a.take i) * V b + 65536 ^ i * a.getD i 0 * V (b.take k)) % (2 ^ 255 - 19)
  low : ∀ j, l.getD j 0 ≤ (16 * i + k) * 163208757248
theorem MulI.start (a b : List Nat) : MulI a b 0 0 zeros := ⟨rfl, by rw [V_zeros]; simp [V], fun j => by rw [zeros_get]; omega⟩
theorem MulI.row {a b l : List Nat} {i : Nat} (h : MulI a b i 16 l) (hi : i < 16) (la : a.length = 16) (lb : b.length = 16) : MulI a b (i + 1) 0 l := by
  refine ⟨h.len, ?_, fun j => ?_⟩
  · rw [h.val, List.take_of_length_le (Nat.le_of_eq lb), mul_row a i (V b) (by omega)]
    simp [V]
  · have := h.low j
    rw [show 16 * (i + 1) + 0 = 16 * i + 16 by omega]
    exact this
theorem prod_le {x y : Nat} (hx : x < 65536) (hy : y < 65536) : x * y ≤ 4294836225 := Nat.mul_le_mul (show x ≤ 65535 by omega) (show y ≤ 65535 by omega)
theorem MulI.low' {a b l : List Nat} {i k : Nat} (h : MulI a b i k l) (hi : i ≤ 16) (hk : k ≤ 16) (j : Nat) : l.getD j 0 ≤ 272 * 163208757248 :=
  Nat.le_trans (h.low j) (Nat.mul_le_mul_right _ (by omega))
theorem MulI.next {a b l : List Nat} {i k x : Nat} (j : Nat) (h : MulI a b i k l) (hj : j < 16) (hx : x ≤ 163208757248) (hv : (V l + 65536 ^ j * x) % (2 ^ 255 - 19) = (V (a.take i) * V b + 65536 ^ i * a.getD i 0 * V (b.take (k + 1))) % (2 ^ 255 - 19)) : MulI a b i (k + 1) (l.set j (l.getD j 0 + x)) := by
  have hl := h.len
  refine ⟨by rw [List.length_set]; exact hl, ?_, fun q => ?_⟩
  · rw [mul_low l j x (by omega)]
    exact hv
  · rw [set_getD _ _ _ _ (by omega), show (16 * i + (k + 1)) * 163208757248 = (16 * i + k) * 163208757248 + 163208757248 by rw [← Nat.add_assoc, Nat.add_mul, Nat.one_mul]]
    split
    · have := h.low j; omega
    · exact Nat.le_trans (h.low q) (Nat.le_add_right _ _)
theorem MulI.lowN {a b l : List Nat} {i k : Nat} (h : MulI a b i k l) (_ : k < 16) (hik : i + k < 16) (lb : b.length = 16) (ha : Whole a) (hb : Whole b) : MulI a b i (k + 1) (l.set (i + k) (l.getD (i + k) 0 + a.getD i 0 * b.getD k 0)) := by
  refine h.next (i + k) hik (Nat.le_trans (prod_le (of_whole ha i) (of_whole hb k)) (by omega)) ?_
  rw [V_take_succ b k (by omega)]
  exact mul_step h.val
theorem MulI.highN {a b l : List Nat} {i k : Nat} (h : MulI a b i k l) (hi : i < 16) (hk : k < 16) (hik : 16 ≤ i + k) (lb : b.length = 16) (ha : Whole a) (hb : Whole b) : MulI a b i (k + 1) (l.set (i + k - 16) (l.getD (i + k - 16) 0 + 38 * a.getD i 0 * b.getD k 0)) := by
  refine h.next (i + k - 16) (by omega) ?_ ?_
  · have := prod_le (of_whole ha i) (of_whole hb k)
    rw [Nat.mul_assoc]
    omega
  · rw [V_take_succ b k (by omega)]
    exact mul_step_high hik h.val
theorem MulI.done {a b l : List Nat} (h : MulI a b 16 0 l) (la : a.length = 16) : num (V l) = num (V a * V b) := by
  apply num_congr
  rw [h.val, List.take_of_length_le (Nat.le_of_eq la)]
  simp [V]
set_option maxRecDepth 100000 in
set_option maxHeartbeats 4000000 in
theorem mul_any (a b : List Nat) (w0 : World) (ha : Whole a) (hb : Whole b) (la : a.length = 16) (lb : b.length = 16) : Calls Tryd.prog 18 #[nV a, nV b] w0 (Out (num (V a * V b)) w0) := by
  unfold nV
  go_enter Tryd.func18, Tryd.ntmps18
  go_upto_region 2 with (fail)
  show Code.wp _ _ _ _ ((((w0.alloc (.cells (pL a).toArray 33)).alloc (.cells (pL b).toArray 33)).alloc (.cells (pL zeros).toArray 33)).alloc (.cells (pL zeros).toArray 33))
  obtain ⟨b1, b2, b3, b4, g4⟩ := four w0 a b
  revert g4; revert b4; revert b3; revert b2; revert b1
  generalize ((((w0.alloc (.cells (pL a).toArray 33)).alloc (.cells (pL b).toArray 33)).alloc (.cells (pL zeros).toArray 33)).alloc (.cells (pL zeros).toArray 33)) = w2
  intro b1 b2 b3 b4 g4
  have H2 := Lib.hid (And.intro g4 (And.intro b1 (And.intro b2 (And.intro b3 b4)))); clear g4 b1 b2 b3 b4
  have HA := Lib.hid (And.intro ha hb); clear ha hb
  have la' := Lib.hid la; clear la
  have lb' := Lib.hid lb; clear lb
  have hla : ∀ i, i < 16 → i < a.length := fun i hi => by have := la'.out; omega
  have hlb : ∀ i, i < 16 → i < b.length := fun i hi => by have := lb'.out; omega
  go_wp2
  go_loopw [6] (fun i wr => ∃ (k : Nat) (l : List Nat), k ≤ 16 ∧ i = .int .i64 k ∧ MulI a b k 0 l ∧ w0.grownBy wr none ∧ Blk wr w0.heap.size 33 (pL a) ∧ Blk wr (w0.heap.size + 1) 33 (pL b) ∧ Blk wr (w0.heap.size + 2) 33 (pL zeros) ∧ Blk wr (w0.heap.size + 3) 33 (pL l)) (fun i _ => 16 - (intOf i).toNat)
  case atStart => exact ⟨0, zeros, by omega, rfl, MulI.start a b, H2.out.1, H2.out.2.1, H2.out.2.2.1, H2.out.2.2.2.1, H2.out.2.2.2.2⟩
  case round =>
    obtain ⟨i, l0, hi, rfl, hs, hg, h1, h2, h3, h4⟩ := hrel
    by_cases hlt : i < 16
    · have i0 : (i : Int) < 16 := by omega
      have HJ := Lib.hid (And.intro hs (And.intro hg (And.intro h1 (And.intro h2 (And.intro h3 h4))))); clear hs hg h1 h2 h3 h4
      go_wp2
      go_loopw [7] (fun kv wr => ∃ (k : Nat) (l : List Nat), k ≤ 16 ∧ kv = .int .i64 k ∧ MulI a b i k l ∧ w0.grownBy wr none ∧ Blk wr w0.heap.size 33 (pL a) ∧ Blk wr (w0.heap.size + 1) 33 (pL b) ∧ Blk wr (w0.heap.size + 2) 33 (pL zeros) ∧ Blk wr (w0.heap.size + 3) 33 (pL l)) (fun kv _ => 16 - (intOf kv).toNat)
      case atStart => exact ⟨0, l0, by omega, rfl, HJ.out.1, HJ.out.2.1, HJ.out.2.2.1, HJ.out.2.2.2.1, HJ.out.2.2.2.2.1, HJ.out.2.2.2.2.2⟩
      case round =>
        clear HJ
        obtain ⟨k, l, hk, rfl, hs, hg, h1, h2, h3, h4⟩ := hrel
        by_cases hkt : k < 16
        · have i1 : (k : Int) < 16 := by omega
          have hl := hs.len
          have c0 := cell h1 i (hla i hlt)
          have c1 := cell h2 k (hlb k hkt)
          have va := of_whole HA.out.1 i
          have vb := of_whole HA.out.2 k
          have hpr := prod_le va vb
          have hbd := h4.grown (gb_drew (gb_refl wr none)) (by simp)
          have ek : ((i : Int) + (k : Int)).toNat = i + k := by omega
          have ho := fun (v : Value) (q B : Nat) (L : List Nat) (hB : w0.heap.size + 3 ≠ B) (h : Blk wr B 33 (pL L)) => (h.grown (gb_drew (gb_refl wr none)) (by simp)).other (a := ⟨w0.heap.size + 3, q, none⟩) hB v
          by_cases hik : i + k < 16
          · have i2 : (i : Int) + (k : Int) < 16 := by omega
            have c2 := cell h4 (i + k) (by omega)
            have f0 := hbd.free (i + k)
            have vl := hs.low' (by omega) (by omega) (i + k)
            have hn := hs.lowN hkt hik lb'.out HA.out.1 HA.out.2
            have hst := set hbd (i + k) (l.getD (i + k) 0 + a.getD i 0 * b.getD k 0)
            have hgs := gb_set_new (gb_drew hg) (p := ⟨w0.heap.size + 3, i + k, none⟩) (by show w0.heap.size ≤ w0.heap.size + 3; omega) (.int .u64 ((l.getD (i + k) 0 + a.getD i 0 * b.getD k 0 : Nat) : Int))
            have o1 := ho (.int .u64 ((l.getD (i + k) 0 + a.getD i 0 * b.getD k 0 : Nat) : Int)) (i + k) _ _ (by omega) h1
            have o2 := ho (.int .u64 ((l.getD (i + k) 0 + a.getD i 0 * b.getD k 0 : Nat) : Int)) (i + k) _ _ (by omega) h2
            have o3 := ho (.int .u64 ((l.getD (i + k) 0 + a.getD i 0 * b.getD k 0 : Nat) : Int)) (i + k) _ _ (by omega) h3
            rw [show ((l.getD (i + k) 0 + a.getD i 0 * b.getD k 0 : Nat) : Int) = ((l.getD (i + k) 0 : Nat) : Int) + ((a.getD i 0 : Nat) : Int) * ((b.getD k 0 : Nat) : Int) by rw [Int.natCast_add, Int.natCast_mul]] at hst hgs o1 o2 o3
            have hmi : ((a.getD i 0 : Nat) : Int) * ((b.getD k 0 : Nat) : Int) = ((a.getD i 0 * b.getD k 0 : Nat) : Int) := by rw [Int.natCast_mul]
            have hm0 : 0 ≤ ((a.getD i 0 : Nat) : Int) * ((b.getD k 0 : Nat) : Int) := by rw [hmi]; omega
            have hm1 : ((a.getD i 0 : Nat) : Int) * ((b.getD k 0 : Nat) : Int) ≤ 4294836225 := by rw [hmi]; omega
            have HI := Lib.hid (And.intro hn (And.intro hgs (And.intro o1 (And.intro o2 (And.intro o3 hst))))); clear hn hgs o1 o2 o3 hst hs hg h1 h2 h3 h4 hbd ho hpr hmi
            generalize l.getD (i + k) 0 = z at *
            generalize a.getD i 0 = x at *
            generalize b.getD k 0 = y at *
            go_wp2
            go_region
            go_wp2
            exact ⟨⟨k + 1, _, by omega, by congr 1, HI.out.1, HI.out.2.1, HI.out.2.2.1, HI.out.2.2.2.1, HI.out.2.2.2.2.1, HI.out.2.2.2.2.2⟩, by simp [intOf]; omega⟩
          · have i2 : ¬ (i : Int) + (k : Int) < 16 := by omega
            have i3 : (i : Int) + (k : Int) - 16 < 16 := by omega
            have i4 : 0 ≤ (i : Int) + (k : Int) - 16 := by omega
            have ej : ((i : Int) + (k : Int) - 16).toNat = i + k - 16 := by omega
            have c2 := cell h4 (i + k - 16) (by omega)
            have f0 := hbd.free (i + k - 16)
            have vl := hs.low' (by omega) (by omega) (i + k - 16)
            have hn := hs.highN hlt hkt (by omega) lb'.out HA.out.1 HA.out.2
            have hst := set hbd (i + k - 16) (l.getD (i + k - 16) 0 + 38 * a.getD i 0 * b.getD k 0)
            have hgs := gb_set_new (gb_drew hg) (p := ⟨w0.heap.size + 3, i + k - 16, none⟩) (by show w0.heap.size ≤ w0.heap.size + 3; omega) (.int .u64 ((l.getD (i + k - 16) 0 + 38 * a.getD i 0 * b.getD k 0 : Nat) : Int))
            have o1 := ho (.int .u64 ((l.getD (i + k - 16) 0 + 38 * a.getD i 0 * b.getD k 0 : Nat) : Int)) (i + k - 16) _ _ (by omega) h1
            have o2 := ho (.int .u64 ((l.getD (i + k - 16) 0 + 38 * a.getD i 0 * b.getD k 0 : Nat) : Int)) (i + k - 16) _ _ (by omega) h2
            have o3 := ho (.int .u64 ((l.getD (i + k - 16) 0 + 38 * a.getD i 0 * b.getD k 0 : Nat) : Int)) (i + k - 16) _ _ (by omega) h3
            rw [show ((l.getD (i + k - 16) 0 + 38 * a.getD i 0 * b.getD k 0 : Nat) : Int) = ((l.getD (i + k - 16) 0 : Nat) : Int) + 38 * ((a.getD i 0 : Nat) : Int) * ((b.getD k 0 : Nat) : Int) by rw [Int.natCast_add, Int.natCast_mul, Int.natCast_mul]; rfl] at hst hgs o1 o2 o3
            have hmi : 38 * ((a.getD i 0 : Nat) : Int) * ((b.getD k 0 : Nat) : Int) = ((38 * (a.getD i 0 * b.getD k 0) : Nat) : Int) := by rw [Int.natCast_mul, Int.natCast_mul, Int.mul_assoc]; rfl
            have hm0 : 0 ≤ 38 * ((a.getD i 0 : Nat) : Int) * ((b.getD k 0 : Nat) : Int) := by rw [hmi]; omega
            have hm1 : 38 * ((a.getD i 0 : Nat) : Int) * ((b.getD k 0 : Nat) : Int) ≤ 163203776550 := by rw [hmi]; omega
            have HI := Lib.hid (And.intro hn (And.intro hgs (And.intro o1 (And.intro o2 (And.intro o3 hst))))); clear hn hgs o1 o2 o3 hst hs hg h1 h2 h3 h4 hbd ho hpr hmi
            obtain ⟨j, hj⟩ : ∃ j, j = i + k - 16 := ⟨_, rfl⟩
            rw [← hj] at ej c2 f0 vl HI
            clear hj
            generalize l.getD j 0 = z at *
            generalize a.getD i 0 = x at *
            generalize b.getD k 0 = y at *
            go_wp2
            go_region
            go_wp2
            exact ⟨⟨k + 1, _, by omega, by congr 1, HI.out.1, HI.out.2.1, HI.out.2.2.1, HI.out.2.2.2.1, HI.out.2.2.2.2.1, HI.out.2.2.2.2.2⟩, by simp [intOf]; omega⟩
        · obtain rfl : k = 16 := by omega
          have HJ := Lib.hid (And.intro (hs.row hlt la'.out lb'.out) (And.intro hg (And.intro h1 (And.intro h2 (And.intro h3 h4))))); clear hs hg h1 h2 h3 h4
          go_wp2
          go_roundw
          case rel => exact ⟨i + 1, l, by omega, by go_num, HJ.out.1, HJ.out.2.1, HJ.out.2.2.1, HJ.out.2.2.2.1, HJ.out.2.2.2.2.1, HJ.out.2.2.2.2.2⟩
          case measure => simp [intOf]; omega
    · obtain rfl : i = 16 := by omega
      have hl := hs.len
      have hv := Lib.hid (hs.done la'.out)
      have hlow : ∀ j, l0.getD j 0 < 2 ^ 60 := fun j => Nat.lt_of_le_of_lt (hs.low' (by omega) (by omega) j) (by decide)
      have zz := h4.lt
      clear hs
      go_upto_region 11 with (fail)
      refine wp_region_lit ?_
      refine Fg.wpl_value (v := nV (l0)) (w' := wr) rfl (ld rfl rfl (h4) (hl) rfl rfl) ?_
      simp only [Act.put, List.setIfInBounds_toArray, List.set_cons_succ, List.set_cons_zero]
      refine Fg.wpl_call rfl (Fg.run_call (vs := #[nV (l0)]) rfl rfl (by simp only [List.map_toArray, List.map_cons, List.map_nil, Act.eval]; rfl) (Fg.run_enter Tryd.func36 (by kernel_rfl) (by kernel_rfl))) ?_
      refine (whole_any l0 wr hl hlow).mono ?_
      rintro e wF ⟨rfl, gwF⟩
      refine ⟨_, rfl, ?_⟩
      simp only [Act.put, List.setIfInBounds_toArray, List.set_cons_succ, List.set_cons_zero]
      obtain ⟨rN, hrN⟩ : ∃ r : List Nat, r = num (V l0) := ⟨_, rfl⟩
      have hrl : rN.length = 16 := by rw [hrN]; exact num_len _
      rw [← hrN]
      have HRN := Lib.hid hrN; clear hrN
      refine Fg.wpl_skip rfl rfl (st (l := rN) rfl rfl rfl ((h3).grown gwF (by simp)) (by rw [pL_len]; rfl) hrl rfl) ?_
      refine wpList_nil ?_
      have hR := stored (l := rN) ((h3).grown gwF (by simp)) (by rw [pL_len]; rfl) hrl
      have gR := gb_setCells_new (cs := pL rN) (gb_trans (hg) gwF) (B := w0.heap.size + 2) (by omega) 0
      revert gR; revert hR
      generalize World.setCells _ _ _ _ = wR
      intro hR gR
      go_wp2_with fail
      exact bodyPost_ret (v := nV rN) (res Tryd.results18 _ _ (w0.heap.size + 2) rN rfl hR hrl) rfl ⟨by rw [HRN.out, hv.out], gR⟩
end Nr
end Go.Proofs.YtjgfhihngbhljaaDoor
