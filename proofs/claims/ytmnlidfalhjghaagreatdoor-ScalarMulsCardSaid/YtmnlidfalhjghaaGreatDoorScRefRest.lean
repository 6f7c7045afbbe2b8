/- scalar's document: a number of 33 bytes less another one; the rest, bit by bit; Reduce, Right. -/
import Derived.Test.YtmnlidfalhjghaaGreatDoorScRef
import Derived.Test.YtmnlidfalhjghaaGreatDoorPart
import Derived.Test.YtmnlidfalhjghaaGreatDoorAppendG
namespace Go.Proofs.YtmnlidfalhjghaaGreatDoor
open Go.RowKit Ow
namespace Sr
set_option maxRecDepth 100000 in
set_option maxHeartbeats 1000000 in
theorem rminus_any (ca cb Ba Bb : Nat) (a b : Option Addr) (x y : List Nat) (w : World) (hx : x.length = 33) (hy : y.length = 33) (hle : num y ≤ num x) (hA : BytesAt w Ba a ca x) (hB : BytesAt w Bb b cb y) :
    Calls Tryz.prog 43 #[.slice a 33 ca, .slice b 33 cb] w (OutB (bytesN (num x - num y) 33) w) := by
  have hlA := hA.lim
  have hlB := hB.lim
  obtain ⟨pa, oa, rfl, hpa, hca⟩ := byte_cell hA (by omega)
  obtain ⟨pb, ob, rfl, hpb, hcb⟩ := byte_cell hB (by omega)
  obtain ⟨w1, hmk, hg1, hs1, hb1⟩ := make_bytes 33 33 w (by omega) (by omega)
  have hmk' : (Instr.makeSlice 22 (.int .i64 33) (.int .i64 33)).run Tryz.prog w = .ok (.slice (some ⟨w.heap.size, 0, none⟩) 33 33) w1 := hmk
  rw [← fillB_nil 33] at hb1
  have hsb : ∀ k, k < 33 → Sc.byt (num x - num y) k + y.getD k 0 + brw x y k = x.getD k 0 + 256 * brw x y (k + 1) := fun k hk => sub_byt x y 33 k hx hy hA.byte hB.byte hle hk
  obtain ⟨D, hD⟩ : ∃ D, D = num x - num y := ⟨_, rfl⟩
  rw [← hD] at hsb ⊢
  have HX := Lib.hid (And.intro (fun j hj => hca j (by rw [hx]; exact hj) : ∀ j, j < 33 → w.cell? ⟨pa, oa + j, none⟩ = some (.int .u8 ((x.getD j 0 : Nat) : Int))) (And.intro (fun j hj => hcb j (by rw [hy]; exact hj) : ∀ j, j < 33 → w.cell? ⟨pb, ob + j, none⟩ = some (.int .u8 ((y.getD j 0 : Nat) : Int))) (And.intro hA.byte (And.intro hB.byte (And.intro hg1 (And.intro hb1 hsb))))))
  have hpn : pa < w.heap.size := by omega
  have hpm : pb < w.heap.size := by omega
  have hne : pa ≠ w.heap.size := by omega
  have hnf : pb ≠ w.heap.size := by omega
  clear hpa hlA hpb hlB hA hB hca hcb hmk hg1 hb1 hs1 hsb hD hx hy hle
  go_enter Tryz.func43, Tryz.ntmps43
  go_wp2_with fail
  go_loopw [6, 7] (fun c i wr => ∃ k : Nat, k ≤ 33 ∧ c = .int .i64 ((brw x y k : Nat) : Int) ∧ i = .int .i64 k ∧ w.grownBy wr none ∧ Blk wr w.heap.size 5 (fillB (bytesN D k) 33)) (fun _ i _ => 33 - (intOf i).toNat)
  case atStart => exact ⟨0, by omega, rfl, rfl, HX.out.2.2.2.2.1, HX.out.2.2.2.2.2.1⟩
  case round =>
    obtain ⟨k, hk, rfl, rfl, hg, hb⟩ := hrel
    by_cases hlt : k < 33
    · have i1 : (k : Int) < 33 := by omega
      have hl := bytesN_length D k
      have hgd := gb_drew hg
      have hbd := hb.grown (gb_drew (gb_refl wr none)) (by simp)
      have c0 := hbd.cell (fillB_cell _ 33 k hl hlt)
      have f0 := hbd.free k
      have hset := hbd.set k (u8N (Sc.byt D k))
      rw [fillB_set _ 33 k _ hl hlt, ← bytesN_succ] at hset
      have hgs := gb_set_new hgd (p := ⟨w.heap.size, k, none⟩) (Nat.le_refl _) (u8N (Sc.byt D k))
      have ca := (gb_cell hg (p := ⟨pa, oa + k, none⟩) hpn (by simp)).trans (HX.out.1 k hlt)
      have cb := (gb_cell hg (p := ⟨pb, ob + k, none⟩) hpm (by simp)).trans (HX.out.2.1 k hlt)
      have v1 := HX.out.2.2.1 k
      have v2 := HX.out.2.2.2.1 k
      have v3 := brw_le x y k
      have v4 := brw_le x y (k + 1)
      have v5 := HX.out.2.2.2.2.2.2 k hlt
      have v6 : Sc.byt D k < 256 := Sc.byt_lt _ _
      have HI := Lib.hid (And.intro hset hgs); clear hset hgs hg hb hl hgd hbd
      unfold u8N at HI
      have hbr : brw x y (k + 1) = if x.getD k 0 < y.getD k 0 + brw x y k then 1 else 0 := rfl
      by_cases hx0 : x.getD k 0 < y.getD k 0 + brw x y k
      · rw [if_pos hx0] at hbr
        have HBR := Lib.hid hbr
        have e1 : ((Sc.byt D k : Nat) : Int) = ((x.getD k 0 : Nat) : Int) - ((y.getD k 0 : Nat) : Int) - ((brw x y k : Nat) : Int) + 256 := by omega
        have n1 : ((x.getD k 0 : Nat) : Int) - ((y.getD k 0 : Nat) : Int) - ((brw x y k : Nat) : Int) < 0 := by omega
        rw [e1] at HI
        generalize x.getD k 0 = xk at *
        generalize y.getD k 0 = yk at *
        generalize brw x y k = bk at *
        clear hbr v5 v6 e1
        go_wp2_with fail
        go_region
        go_wp2
        go_roundw
        case rel => exact ⟨k + 1, by omega, by rw [HBR.out]; rfl, by go_num, HI.out.2, HI.out.1⟩
        case measure => simp [intOf]; omega
      · rw [if_neg hx0] at hbr
        have HBR := Lib.hid hbr
        have e1 : ((Sc.byt D k : Nat) : Int) = ((x.getD k 0 : Nat) : Int) - ((y.getD k 0 : Nat) : Int) - ((brw x y k : Nat) : Int) := by omega
        have n1 : ¬ ((x.getD k 0 : Nat) : Int) - ((y.getD k 0 : Nat) : Int) - ((brw x y k : Nat) : Int) < 0 := by omega
        rw [e1] at HI
        generalize x.getD k 0 = xk at *
        generalize y.getD k 0 = yk at *
        generalize brw x y k = bk at *
        clear hbr v5 v6 e1
        go_wp2_with fail
        go_region
        go_wp2
        go_roundw
        case rel => exact ⟨k + 1, by omega, by rw [HBR.out]; rfl, by go_num, HI.out.2, HI.out.1⟩
        case measure => simp [intOf]; omega
    · obtain rfl : k = 33 := by omega
      rw [fillB_full _ 33 (bytesN_length D 33)] at hb
      have HI := Lib.hid (And.intro hg hb); clear hg hb
      go_wp2
      go_ret
      exact ⟨w.heap.size, by rw [bytesN_length]; rfl, HI.out.1, Nat.le_refl _, HI.out.2⟩
theorem OutB.own {l : List Nat} {w w' : World} {e : Ending} (h : OutB l w e w') (n : Nat) (hn : l.length = n) (hm : n ≤ 140737488355328) : ∃ g, e = .returned (.slice (some ⟨g, 0, none⟩) n n) ∧ w.grownBy w' none ∧ w.heap.size ≤ g ∧ w'.ownsRow w.heap.size 5 1 (.slice (some ⟨g, 0, none⟩) n n) n (l.map u8N) := by
  obtain ⟨g, rfl, hg, hs, hb⟩ := h
  exact ⟨g, by rw [hn], hg, hs, own_of_blk hb (by rw [List.length_map]; exact hn) hs hm⟩
theorem OutB.at {l : List Nat} {w w' : World} {e : Ending} (h : OutB l w e w') (n : Nat) (hn : l.length = n) (hm : n < 1000000) (hb : ∀ i, l.getD i 0 < 256) : ∃ g, e = .returned (.slice (some ⟨g, 0, none⟩) n n) ∧ w.grownBy w' none ∧ w.heap.size ≤ g ∧ BytesAt w' w'.heap.size (some ⟨g, 0, none⟩) n l := by
  obtain ⟨g, rfl, hg, hs, hk⟩ := h
  exact ⟨g, by rw [hn], hg, hs, blk_bytes (tl := []) (by rw [List.append_nil]; exact hk) hn (Nat.le_refl _) (by omega) hb hk.lt (Nat.le_refl _)⟩
def l33 : List Nat := ordB 237 ++ [0]
theorem l33_length : l33.length = 33 := rfl
theorem l33_lt : ∀ i, l33.getD i 0 < 256 := fun i => by
  unfold l33
  rw [List.getD_eq_getElem?_getD, List.getElem?_append]
  split
  · rw [← List.getD_eq_getElem?_getD]; exact ordB_lt 237 (by decide) i
  · rcases Nat.eq_zero_or_pos (i - (ordB 237).length) with h | h
    · rw [h]; decide
    · rw [List.getElem?_eq_none (by simp; omega)]; decide
theorem num_l33 : num l33 = Sc.L := by
  have h := num_ordB 237
  have e : num l33 = num (ordB 237) := by
    rw [num_is l33 33 rfl, num_is (ordB 237) 32 rfl]
    rw [Sc.leN, Sc.leN_congr (fun i => l33.getD i 0) (fun i => (ordB 237).getD i 0) 32 (fun i hi => by
      show l33.getD i 0 = (ordB 237).getD i 0
      unfold l33
      rw [List.getD_eq_getElem?_getD, List.getElem?_append_left (by show i < 32; omega), List.getD_eq_getElem?_getD])]
    show Sc.leN _ 32 + 0 * _ = _
    omega
  omega
theorem and_one' : ∀ j : Fin 256, bits .and .u8 (j.val : Int) 1 = ((j.val % 2 : Nat) : Int) := by decide +kernel
theorem and_one (x j : Nat) (hx : x < 256) : bits .and .u8 ((x : Int) / 2 ^ j) 1 = ((x / 2 ^ j % 2 : Nat) : Int) := by
  have hl : x / 2 ^ j < 256 := Nat.lt_of_le_of_lt (Nat.div_le_self _ _) hx
  have e : (x : Int) / 2 ^ j = ((x / 2 ^ j : Nat) : Int) := by rw [Int.natCast_ediv, Int.natCast_pow]; rfl
  rw [e]
  exact and_one' ⟨x / 2 ^ j, hl⟩
/-- what Rest answers: 32 bytes of a new block of 33 -/
def OutR (n : Nat) (w : World) (e : Ending) (w' : World) : Prop := ∃ g, e = .returned (.slice (some ⟨g, 0, none⟩) 32 33) ∧ w.grownBy w' none ∧ w.heap.size ≤ g ∧ Blk w' g 5 ((scB n ++ [0]).map u8N)
set_option maxRecDepth 100000 in
set_option maxHeartbeats 2000000 in
theorem rest_any (n ca Ba : Nat) (a : Option Addr) (x : List Nat) (w : World) (hn : n ≤ 100000) (hx : x.length = n) (hA : BytesAt w Ba a ca x) :
    Calls Tryz.prog 28 #[.slice a n ca] w (OutR (num x) w) := by
  have hN0 : num x / 2 ^ (8 * n) = 0 := by rw [← hx]; exact Nat.div_eq_of_lt (num_lt x hA.byte)
  have HN := Lib.hid hN0; clear hN0
  have HX := Lib.hid (And.intro hx (And.intro hA (fun i hi => bit_byte x hA.byte i hi : ∀ i, i < 8 * x.length → _))); clear hA
  go_enter Tryz.func28, Tryz.ntmps28
  go_wp2_with fail
  refine (rorder_any w).mono ?_
  intro e w1 h
  obtain ⟨g, rfl, hg1, hs1, ho1⟩ := OutB.own h 32 rfl (by decide); clear h
  obtain ⟨v2, w2, hap, ho2, hg2⟩ := append1_u8 w1 w.heap.size 32 _ (u8N 0) _ ho1 rfl (by omega) hg1.size
  have hg02 := gb_own hg1 ho1 (Nat.le_refl _) hg2
  rw [show (ordB 237).map u8N ++ [u8N 0] = l33.map u8N by unfold l33; rw [List.map_append]; rfl] at ho2
  obtain ⟨gl, cl, rfl, _, _, hBl⟩ := own_bytesAt ho2 l33_length (by decide) l33_lt
  obtain ⟨w3, hmk, hg3, hs3, hb3⟩ := make_bytes 33 33 w2 (by omega) (by omega)
  have hmk' : (Instr.makeSlice 22 (.int .i64 33) (.int .i64 33)).run Tryz.prog w2 = .ok (.slice (some ⟨w2.heap.size, 0, none⟩) 33 33) w3 := hmk
  have hg03 := gb_trans hg02 hg3
  have hB3 := hBl.stay hg3
  have hzb : (List.replicate 33 (u8N 0)) = (bytesN (num x / 2 ^ (8 * n) % Sc.L) 33).map u8N := by rw [HN.out]; rfl
  rw [hzb] at hb3
  have hap' : (Builtin.append_ #[22, 22] 22 #[.slice (some ⟨g, 0, none⟩) 32 32, .slice (some ⟨w1.heap.size, 0, none⟩) 1 1]).run Tryz.prog (w1.alloc (.cells #[.int .u8 0] 5)) = .ok (.slice (some ⟨gl, 0, none⟩) 33 cl) w2 := hap
  clear hap
  have H3 := Lib.hid (And.intro hg03 (And.intro hB3 (And.intro hb3 (Nat.le_trans hg02.size (Nat.le_refl _))))); clear hg03 hB3 hb3 hg3 hg2 hBl ho2 ho1 hg1 hs1 hs3 hg02 hzb hmk
  go_wp2_with (at_builtin; refine wpList_append_run rfl (.tmp 6) (.tmp 7) 22 rfl rfl _ _ rfl rfl _ _ hap' ?_)
  clear hap' hmk'
  obtain ⟨BL, hBL⟩ : ∃ BL, BL = w3.heap.size := ⟨_, rfl⟩
  go_loopw [4, 5] (fun v i wr => ∃ (m gv : Nat) (z : Int), m ≤ 8 * n ∧ z + 1 = m ∧ i = .int .i64 z ∧ v = .slice (some ⟨gv, 0, none⟩) 33 33 ∧ w.grownBy wr none ∧ w.heap.size ≤ gv ∧ Blk wr gv 5 ((bytesN (num x / 2 ^ m % Sc.L) 33).map u8N) ∧ BytesAt wr BL (some ⟨gl, 0, none⟩) cl l33) (fun _ i _ => (intOf i + 1).toNat)
  case atStart => exact ⟨8 * n, w2.heap.size, 8 * (n : Int) - 1, by omega, by omega, rfl, rfl, H3.out.1, H3.out.2.2.2, H3.out.2.2.1, by rw [hBL]; exact H3.out.2.1.full⟩
  case round =>
    clear H3
    obtain ⟨m, gv, z, hm, hz, rfl, rfl, hg, hgv, hb, hbl⟩ := hrel
    have hbv : BytesAt wr wr.heap.size (some ⟨gv, 0, none⟩) 33 (bytesN (num x / 2 ^ m % Sc.L) 33) := blk_bytes (tl := []) (by rw [List.append_nil]; exact hb) (bytesN_length _ _) (Nat.le_refl _) (by omega) (bytesN_lt _ _) hb.lt (Nat.le_refl _)
    rcases Nat.eq_zero_or_pos m with h0 | h0
    · subst h0
      obtain rfl : z = -1 := by omega
      obtain ⟨a', hsl, ha'⟩ := slice_to (some ⟨gv, 0, none⟩) 33 33 32 (by omega)
      obtain rfl := ha' gv 0 rfl
      have e1 : bytesN (num x / 2 ^ 0 % Sc.L) 33 = scB (num x) ++ [0] := by
        rw [Nat.pow_zero, Nat.div_one, bytes_prefix _ (Sc.lt256 _ (Sc.mod_lt _))]; rfl
      rw [e1] at hb
      have HI := Lib.hid (And.intro hg (And.intro hgv hb)); clear hg hgv hb hbv hbl e1 ha' hz hm
      go_wp2
      go_ret
      exact ⟨gv, rfl, HI.out⟩
    · obtain ⟨d, rfl⟩ : ∃ d, m = d + 1 := ⟨m - 1, by omega⟩
      obtain rfl : z = (d : Int) := by omega
      have hd8 : d < 8 * n := by omega
      obtain ⟨pa, oa, rfl, hpa, hca⟩ := byte_cell HX.out.2.1 (by rw [HX.out.1]; omega)
      have hla := HX.out.2.1.lim
      have ca := (gb_cell hg (p := ⟨pa, oa + d / 8, none⟩) (show pa < _ by omega) (by simp)).trans (hca (d / 8) (by rw [HX.out.1]; omega))
      have hbit := HX.out.2.2 d (by rw [HX.out.1]; exact hd8)
      have hand := and_one (x.getD (d / 8) 0) (d % 8) (HX.out.2.1.byte _)
      rw [hbit] at hand
      have hrb := rest_bit (num x) d
      have hml : num x / 2 ^ (d + 1) % Sc.L < Sc.L := Sc.mod_lt _
      have hdb := fun (w' : World) (hg' : wr.grownBy w' none) => rdouble_any 33 w'.heap.size (num x / 2 ^ d % 2) (some ⟨gv, 0, none⟩) (bytesN (num x / 2 ^ (d + 1) % Sc.L) 33) w' (by omega) (bytesN_length _ _) (hbv.stay hg').full
      have hnm : num (bytesN (num x / 2 ^ (d + 1) % Sc.L) 33) = num x / 2 ^ (d + 1) % Sc.L := num_of _ _ (lt33 _ (by omega))
      simp only [hnm] at hdb
      obtain ⟨bt, hbt⟩ : ∃ bt, bt = num x / 2 ^ d % 2 := ⟨_, rfl⟩
      rw [← hbt] at hand hdb hrb
      have hbt1 : bt ≤ 1 := by omega
      have hd1 : (d : Int) < 800000 := by omega
      have HI := Lib.hid (And.intro hg (And.intro hgv (And.intro hbv (And.intro hbl (And.intro hdb (And.intro hrb hml)))))); clear hg hgv hbv hbl hdb hrb hml hb hca hnm hbit hbt
      generalize x.getD (d / 8) 0 = xd at *
      go_wp2_with fail
      refine (HI.out.2.2.2.2.1 wr (gb_refl _ _)).mono ?_
      intro e w5 h
      obtain ⟨g5, rfl, hg5, hs5, hk5⟩ := h
      rw [bytesN_length]
      obtain ⟨T, hT⟩ : ∃ T, T = 2 * (num x / 2 ^ (d + 1) % Sc.L) + bt := ⟨_, rfl⟩
      have hT2 : T < 2 * Sc.L := by have := HI.out.2.2.2.2.2.2; omega
      have hrT : num x / 2 ^ d % Sc.L = T % Sc.L := by rw [hT]; exact HI.out.2.2.2.2.2.1
      rw [← hT] at hk5
      have hnT : num (bytesN T 33) = T := num_of _ _ (lt33 _ (by omega))
      have hb5 : BytesAt w5 w5.heap.size (some ⟨g5, 0, none⟩) 33 (bytesN T 33) := blk_bytes (tl := []) (by rw [List.append_nil]; exact hk5) (bytesN_length _ _) (Nat.le_refl _) (by omega) (bytesN_lt _ _) hk5.lt (Nat.le_refl _)
      have hbl5 := HI.out.2.2.2.1.stay hg5
      have hls := rless_any 33 cl w5.heap.size BL (some ⟨g5, 0, none⟩) (some ⟨gl, 0, none⟩) (bytesN T 33) l33 w5 (bytesN_length _ _) l33_length hb5 hbl5
      rw [hnT, num_l33] at hls
      have hmn := fun (h : Sc.L ≤ T) (w' : World) (hg' : w5.grownBy w' none) => rminus_any 33 cl w'.heap.size BL (some ⟨g5, 0, none⟩) (some ⟨gl, 0, none⟩) (bytesN T 33) l33 w' (bytesN_length _ _) l33_length (by rw [hnT, num_l33]; exact h) (hb5.stay hg').full (hbl5.stay hg')
      rw [hnT, num_l33] at hmn
      have hg05 := gb_trans HI.out.1 hg5
      have H5 := Lib.hid (And.intro hg05 (And.intro (Nat.le_trans HI.out.1.size hs5) (And.intro hk5 (And.intro hbl5 (And.intro hmn hrT)))))
      have HT2 := Lib.hid hT2
      have HLS := Lib.hid hls
      clear hg5 hs5 hk5 hT hT2 hrT hnT hb5 hbl5 hls hmn hg05 HI
      by_cases hlt : T < Sc.L
      · rw [decide_eq_true hlt] at HLS
        have HLT := Lib.hid hlt; clear hlt
        go_wp2_with fail
        refine HLS.out.mono ?_
        rintro e w6 ⟨rfl, hg6⟩
        have HG6 := Lib.hid hg6; clear hg6 HLS
        go_wp2
        go_roundw
        case rel => exact ⟨d, g5, (d : Int) - 1, by omega, by omega, rfl, rfl, gb_trans H5.out.1 HG6.out, H5.out.2.1, by rw [H5.out.2.2.2.2.2, rest_less _ HLT.out]; exact H5.out.2.2.1.grown HG6.out (by simp), H5.out.2.2.2.1.stay HG6.out⟩
        case measure => simp [intOf]
      · rw [decide_eq_false hlt] at HLS
        have HLT := Lib.hid hlt; clear hlt
        go_wp2_with fail
        refine HLS.out.mono ?_
        rintro e w6 ⟨rfl, hg6⟩
        have HM := Lib.hid (H5.out.2.2.2.2.1 (Nat.le_of_not_lt HLT.out) w6 hg6)
        have HG6 := Lib.hid hg6; clear hg6 HLS
        go_wp2_with fail
        refine HM.out.mono ?_
        intro e w7 h
        obtain ⟨g7, rfl, hg7, hs7, hk7⟩ := h
        rw [bytesN_length]
        have H7 := Lib.hid (And.intro (gb_trans HG6.out hg7) (And.intro (Nat.le_trans (gb_trans H5.out.1 HG6.out).size hs7) hk7)); clear hg7 hs7 hk7 HM
        go_wp2
        go_roundw
        case rel => exact ⟨d, g7, (d : Int) - 1, by omega, by omega, rfl, rfl, gb_trans H5.out.1 H7.out.1, H7.out.2.1, by rw [H5.out.2.2.2.2.2, rest_sub _ HLT.out HT2.out]; exact H7.out.2.2, H5.out.2.2.2.1.stay H7.out.1⟩
        case measure => simp [intOf]
theorem OutR.at {n : Nat} {w w' : World} {e : Ending} (h : OutR n w e w') : ∃ g, e = .returned (.slice (some ⟨g, 0, none⟩) 32 33) ∧ w.grownBy w' none ∧ w.heap.size ≤ g ∧ BytesAt w' w'.heap.size (some ⟨g, 0, none⟩) 33 (scB n) := by
  obtain ⟨g, rfl, hg, hs, hb⟩ := h
  exact ⟨g, rfl, hg, hs, blk_bytes (tl := [u8N 0]) (by rw [List.map_append] at hb; exact hb) (scB_length n) (by decide) (by omega) (scB_lt n) hb.lt (Nat.le_refl _)⟩
set_option maxHeartbeats 1000000 in
theorem rreduce_any (n ca Ba : Nat) (a : Option Addr) (x : List Nat) (w : World) (hn : n ≤ 64) (hx : x.length = n) (hA : BytesAt w Ba a ca x) :
    Calls Tryz.prog 11 #[.slice a n ca] w (OutR (num x) w) := by
  have HR := Lib.hid (fun w' (hg : w.grownBy w' none) => rest_any n ca Ba a x w' (by omega) hx (hA.stay hg)); clear hA hx
  have h64 : ¬ (n : Int) > 64 := by omega
  go_enter Tryz.func11, Tryz.ntmps11
  go_wp2_with fail
  refine (HR.out w (gb_refl _ _)).mono ?_
  intro e w1 h
  obtain ⟨g, rfl, h1⟩ := h
  have H := Lib.hid h1; clear h1
  go_wp2
  go_ret
  exact ⟨g, rfl, H.out⟩
set_option maxHeartbeats 1000000 in
theorem rreduce_none (n ca : Nat) (a : Option Addr) (w : World) (hn : 64 < n) :
    Calls Tryz.prog 11 #[.slice a n ca] w fun e w' => e = .returned (.slice none 0 0) ∧ w.grownBy w' none := by
  have h64 : (n : Int) > 64 := by omega
  go_enter Tryz.func11, Tryz.ntmps11
  go_wp2
  go_ret
  exact ⟨rfl, gb_refl _ _⟩
set_option maxHeartbeats 1000000 in
theorem rright_none (n ca : Nat) (a : Option Addr) (w : World) (hn : n ≠ 32) :
    Calls Tryz.prog 13 #[.slice a n ca] w fun e w' => e = .returned (.bool false) ∧ w.grownBy w' none := by
  have h64 : ¬ (n : Int) = 32 := by omega
  go_enter Tryz.func13, Tryz.ntmps13
  go_wp2
  go_ret
  exact ⟨rfl, gb_refl _ _⟩
theorem byte_end (x : List Nat) (hb : ∀ i, x.getD i 0 < 256) : ∀ i, (x ++ [0]).getD i 0 < 256 := fun i => by
  rw [List.getD_eq_getElem?_getD, List.getElem?_append]
  split
  · rw [← List.getD_eq_getElem?_getD]; exact hb i
  · rcases Nat.eq_zero_or_pos (i - x.length) with h | h
    · rw [h]; decide
    · rw [List.getElem?_eq_none (by simp; omega)]; decide
theorem num_end (x : List Nat) : num (x ++ [0]) = num x := by
  have h1 : Sc.leN (fun i => (x ++ [0]).getD i 0) x.length = Sc.leN (fun i => x.getD i 0) x.length := Sc.leN_congr _ _ x.length (fun i hi => by
    show (x ++ [0]).getD i 0 = x.getD i 0
    rw [List.getD_eq_getElem?_getD, List.getElem?_append_left hi, List.getD_eq_getElem?_getD])
  rw [num_is (x ++ [0]) (x.length + 1) (by simp), Sc.leN, h1]
  have e : (x ++ [0]).getD x.length 0 = 0 := by rw [List.getD_eq_getElem?_getD, List.getElem?_append_right (Nat.le_refl _), Nat.sub_self]; rfl
  show Sc.leN _ x.length + (x ++ [0]).getD x.length 0 * _ = _
  rw [e, Nat.zero_mul]; rfl
set_option maxRecDepth 100000 in
set_option maxHeartbeats 1000000 in
theorem rright_any (ca Ba : Nat) (a : Option Addr) (x : List Nat) (w : World) (hx : x.length = 32) (hA : BytesAt w Ba a ca x) :
    Calls Tryz.prog 13 #[.slice a 32 ca] w fun e w' => e = .returned (.bool (decide (num x < Sc.L))) ∧ w.grownBy w' none := by
  have ho0 : (w.alloc (.cells #[] 5)).ownsRow w.heap.size 5 1 (.slice (some ⟨w.heap.size, 0, none⟩) 0 0) 0 [] := World.ownsRow_lit w #[] 0 (Nat.le_refl _) (by unfold maxLen; omega) rfl
  obtain ⟨v1, w1, hap1, ho1, hgr1⟩ := append_bytes _ w.heap.size 0 Ba ca 32 _ [] a x ho0 hx (hA.stay (gb_alloc (gb_refl _ _) _)) (by omega) (by simp)
  have hg1 := gb_own (gb_alloc (gb_refl w none) _) ho0 (Nat.le_refl _) hgr1
  rw [Nat.zero_add, List.nil_append] at ho1
  obtain ⟨v2, w2, hap2, ho2, hgr2⟩ := append1_u8 w1 w.heap.size 32 v1 (u8N 0) _ ho1 rfl (by omega) hg1.size
  have hg2 := gb_own hg1 ho1 (Nat.le_refl _) hgr2
  rw [show x.map u8N ++ [u8N 0] = (x ++ [0]).map u8N by rw [List.map_append]; rfl] at ho2
  obtain ⟨gx, cx, rfl, _, _, hbx⟩ := own_bytesAt ho2 (by simp [hx]) (by decide) (byte_end x hA.byte)
  have hap2' : (Builtin.append_ #[22, 22] 22 #[v1, .slice (some ⟨w1.heap.size, 0, none⟩) 1 1]).run Tryz.prog (w1.alloc (.cells #[.int .u8 0] 5)) = .ok (.slice (some ⟨gx, 0, none⟩) 33 cx) w2 := hap2
  have H2 := Lib.hid (And.intro hg2 (And.intro hbx hx)); clear hg2 hbx ho1 ho2 hgr1 hgr2 hg1 ho0 hA hap2 hx
  go_enter Tryz.func13, Tryz.ntmps13
  go_wp2_with (first | (at_builtin; refine wpList_append_runG rfl (.tmp 7) (.tmp 8) 22 rfl rfl _ _ rfl rfl _ _ hap1 ?_) | (at_builtin; refine wpList_append_runG rfl (.tmp 9) (.tmp 10) 22 rfl rfl _ _ rfl rfl _ _ hap2' ?_))
  refine (rorder_any w2).mono ?_
  intro e w3 h
  obtain ⟨g, rfl, hg3, hs3, ho3⟩ := OutB.own h 32 rfl (by decide); clear h
  obtain ⟨v4, w4, hap4, ho4, hgr4⟩ := append1_u8 w3 w2.heap.size 32 _ (u8N 0) _ ho3 rfl (by omega) hg3.size
  have hg4 := gb_own hg3 ho3 (Nat.le_refl _) hgr4
  rw [show (ordB 237).map u8N ++ [u8N 0] = l33.map u8N by unfold l33; rw [List.map_append]; rfl] at ho4
  obtain ⟨gl, cl, rfl, _, _, hbl⟩ := own_bytesAt ho4 l33_length (by decide) l33_lt
  have hap4' : (Builtin.append_ #[22, 22] 22 #[.slice (some ⟨g, 0, none⟩) 32 32, .slice (some ⟨w3.heap.size, 0, none⟩) 1 1]).run Tryz.prog (w3.alloc (.cells #[.int .u8 0] 5)) = .ok (.slice (some ⟨gl, 0, none⟩) 33 cl) w4 := hap4
  have hls := rless_any cx cl _ _ (some ⟨gx, 0, none⟩) (some ⟨gl, 0, none⟩) (x ++ [0]) l33 w4 (by rw [List.length_append, H2.out.2.2]; rfl) l33_length (H2.out.2.1.stay hg4) hbl
  rw [num_l33, num_end] at hls
  have HL := Lib.hid (And.intro hls (gb_trans H2.out.1 hg4)); clear hls hg4 hbl hap4 ho4 hgr4 ho3 hg3 hs3
  go_wp2_with (at_builtin; refine wpList_append_runG rfl (.tmp 12) (.tmp 13) 22 rfl rfl _ _ rfl rfl _ _ hap4' ?_)
  refine HL.out.1.mono ?_
  rintro e w5 ⟨rfl, hg5⟩
  have HG := Lib.hid (gb_trans HL.out.2 hg5); clear hg5
  go_wp2
  go_ret
  exact ⟨rfl, HG.out⟩
end Sr
end Go.Proofs.YtmnlidfalhjghaaGreatDoor
