/- sha's constants out of roots: a root's fraction. -/
import Derived.Test.YtjnednikgnapnaaDoorShaRootT
namespace Go.Proofs.YtjnednikgnapnaaDoor
open Go.RowKit Ow Ns
namespace Sha
/-- the state ahead of bit k: the number R, what is left of it -/
def RootAt (G which p : Nat) (k : Nat) (l : List Nat) : Prop := l.length = 5 ∧ Whole l ∧ V l < 2 ^ 72 ∧ V l % 2 ^ k = 0 ∧ rootFrom G which k (V l) = rootFrom G which 72 0 ∧ G = goalOf p which
theorem root_yes {G wh p k : Nat} {l : List Nat} (h : RootAt G wh p (k + 1) l) (hc : G < (V l + 2 ^ k) ^ wh) : RootAt G wh p k l := by
  obtain ⟨h1, h2, h3, h4, h5, h6⟩ := h
  have e : rootStep G wh k (V l) = V l := if_pos hc
  have hl := rootStep_low (goal := G) (which := wh) h4
  rw [e] at hl
  refine ⟨h1, h2, h3, hl, ?_, h6⟩
  rw [← h5]
  show _ = rootFrom G wh k (rootStep G wh k (V l))
  rw [e]
theorem root_no {G wh p k : Nat} {l : List Nat} (h : RootAt G wh p (k + 1) l) (hk : k < 72) (hc : ¬ G < (V l + 2 ^ k) ^ wh) : RootAt G wh p k (l.set (k / 16) (l.getD (k / 16) 0 + 2 ^ (k % 16))) := by
  obtain ⟨h1, h2, h3, h4, h5, h6⟩ := h
  have e : rootStep G wh k (V l) = V l + 2 ^ k := if_neg hc
  have hl := rootStep_low (goal := G) (which := wh) h4
  have ht := rootStep_lt (goal := G) (which := wh) h4 hk h3
  have hv := bit_value l k (by rw [h1]; omega)
  rw [e] at hl ht
  refine ⟨by rw [List.length_set]; exact h1, whole_set h2 _ _ (bit_fits l k h2 (by rw [h1]; omega) h4), by rw [hv]; exact ht, by rw [hv]; exact hl, ?_, h6⟩
  rw [← h5, hv]
  show _ = rootFrom G wh k (rootStep G wh k (V l))
  rw [e]
set_option maxHeartbeats 4000000 in
set_option maxRecDepth 100000 in
theorem root_any (p wh : Nat) (w : World) (hp : p < 65536) (hw : wh = 2 ∨ wh = 3) :
    Calls Tryd.prog 11 #[.int .i64 (p : Nat), .int .i64 (wh : Nat)] w fun e w' => e = .returned (.int .u64 (rootN p wh : Nat)) ∧ w.grownBy w' none := by
  obtain ⟨q, hq⟩ : ∃ q, q = 4 * wh + 1 := ⟨_, rfl⟩
  obtain ⟨w1, hmk, hg1, hb1⟩ := make_digs q w (by omega)
  obtain ⟨g, hgg⟩ : ∃ g, g = w.heap.size := ⟨_, rfl⟩
  rw [← hgg] at hmk hb1
  rw [show ((q : Nat) : Int) = 4 * (wh : Int) + 1 by omega] at hmk
  have hlen : 4 * wh < ((List.replicate q 0).map u32N).length := by simp; omega
  have c0 := u32_at hb1 (4 * wh) (by simp; omega)
  rw [zeros_at] at c0
  have f0 := hb1.free (4 * wh)
  have hs := hb1.set (4 * wh) (.int .u32 (p : Int))
  rw [set_map] at hs
  have hg2 := gb_set_new hg1 (p := ⟨g, 4 * wh, none⟩) (Nat.le_of_eq hgg.symm) (.int .u32 (p : Int))
  obtain ⟨w2, hw2⟩ : ∃ w2, w2 = w1.setCell ⟨g, 4 * wh, none⟩ (.int .u32 (p : Int)) := ⟨_, rfl⟩
  rw [← hw2] at hs hg2
  obtain ⟨w3, hmk3, hg3, hb3⟩ := make_digs 5 w2 (by decide)
  obtain ⟨g3, hgg3⟩ : ∃ g3, g3 = w2.heap.size := ⟨_, rfl⟩
  rw [← hgg3] at hmk3 hb3
  rw [hw2, show ((5 : Nat) : Int) = (5 : Int) from rfl] at hmk3
  have H3 := Lib.hid (And.intro (gb_trans hg2 hg3) (And.intro (hs.grown hg3 (by simp)) (And.intro hb3 (show w.heap.size ≤ g3 by rw [hgg3]; exact hg2.size))))
  have i4 : (4 * (wh : Int)).toNat = 4 * wh := by omega
  have hne : g3 ≠ g := by have h1 := hs.lt; rw [hgg3]; omega
  clear hg1 hs hg2 hg3 hb3 hb1 hgg3 hgg
  have hwl : wh ≤ 3 := by omega
  replace hw := Lib.hid hw
  have HGG : Hid (g3 ≠ g) := hne
  go_enter Tryd.func11, Tryd.ntmps11
  go_upto_region 4 with fail
  have hGL : ((List.replicate q 0).set (4 * wh) p).length = 4 * wh + 1 ∧ Whole ((List.replicate q 0).set (4 * wh) p) ∧ V ((List.replicate q 0).set (4 * wh) p) = goalOf p wh := by
    refine ⟨by simp [hq], whole_set (fun d hd => by rw [List.eq_of_mem_replicate hd]; decide) _ _ hp, ?_⟩
    have h := V_set (List.replicate q 0) (4 * wh) p (by simp; omega)
    rw [zeros_at, V_zeros, Nat.mul_zero, Nat.zero_add, Nat.add_zero] at h
    rw [h, pow16]
    unfold goalOf
    rw [show 16 * (4 * wh) = 64 * wh by omega, Nat.mul_comm]
  generalize (List.replicate q 0).set (4 * wh) p = GL at *
  have HGL := Lib.hid hGL
  clear hGL
  go_wp2_with fail
  go_loopw [7] (fun i wr => ∃ (t : Nat) (l : List Nat), t ≤ 72 ∧ i = .int .i64 ((t : Int) - 1) ∧ Hid (w.grownBy wr none ∧ Blk wr g 45 (GL.map u32N) ∧ Blk wr g3 45 (l.map u32N) ∧ RootAt (V GL) wh p t l)) (fun i _ => (intOf i + 1).toNat)
  case atStart => exact ⟨72, List.replicate 5 0, by omega, rfl, H3.out.1, H3.out.2.1, H3.out.2.2.1, by simp, fun d hd => by rw [List.eq_of_mem_replicate hd]; decide, by rw [V_zeros]; exact Nat.pow_pos (by decide), by rw [V_zeros], by rw [V_zeros], HGL.out.2.2⟩
  case round =>
    obtain ⟨t, l, ht, rfl, HI⟩ := hrel
    cases t with
    | zero =>
      have k0 : ¬ (((0 : Nat) : Int) - 1 ≥ 0) := by decide
      obtain ⟨L, hL⟩ : ∃ L, L = V l % 18446744073709551616 := ⟨_, rfl⟩
      have hrn : rootN p wh = L := by
        have h := HI.out.2.2.2.2.2.2.2.1
        have h2 := HI.out.2.2.2.2.2.2.2.2
        rw [hL]
        unfold rootN
        rw [← h2, ← h]
        rfl
      have HL := Lib.hid (And.intro hL hrn)
      clear hL hrn
      go_wp2_with fail
      go_loopw [9, 10] (fun nv iv w2 => ∃ t : Nat, t ≤ 4 ∧ nv = .int .u64 ((L / 65536 ^ t : Nat) : Int) ∧ iv = .int .i64 ((t : Int) - 1) ∧ w2 = wr) (fun _ iv _ => (intOf iv + 1).toNat)
      case atStart => exact ⟨4, by omega, by rw [Nat.div_eq_of_lt (by rw [HL.out.1]; omega)]; rfl, rfl, rfl⟩
      case round =>
        obtain ⟨t, ht, rfl, rfl, rfl⟩ := hrel
        cases t with
        | zero =>
          have k1 : ¬ (((0 : Nat) : Int) - 1 ≥ 0) := by decide
          go_wp2
          go_ret
          exact ⟨by rw [HL.out.2]; simp, HI.out.1⟩
        | succ s =>
          rw [show ((s + 1 : Nat) : Int) - 1 = (s : Int) by omega]
          have k1 : (s : Int) ≥ 0 := by omega
          have hs4 : s < 5 := by omega
          obtain ⟨n, hn⟩ : ∃ n, n = L / 65536 ^ (s + 1) := ⟨_, rfl⟩
          rw [← hn]
          obtain ⟨x, hx⟩ : ∃ x, l.getD s 0 = x := ⟨_, rfl⟩
          have c7 := u32_at HI.out.2.2.1 s (by rw [HI.out.2.2.2.1]; omega)
          rw [hx] at c7
          have hxl : x < 65536 := by rw [← hx]; exact of_whole HI.out.2.2.2.2.1 _
          have hnl : n < 281474976710656 ∧ n * 65536 + x = L / 65536 ^ s := by
            have hd := digit_of l s HI.out.2.2.2.2.1 (by rw [HI.out.2.2.2.1]; omega)
            rw [hx] at hd
            have hLl := HL.out.1
            have h4 : s = 0 ∨ s = 1 ∨ s = 2 ∨ s = 3 := by omega
            rcases h4 with rfl | rfl | rfl | rfl <;> simp only [Nat.reducePow, Nat.reduceAdd, Nat.pow_zero, Nat.pow_one, Nat.div_one] at hd hn ⊢ <;> omega
          have HN := Lib.hid hnl.2
          have hnb := hnl.1
          clear hnl hn hx
          go_wp2
          exact ⟨⟨s, by omega, by rw [← HN.out]; simp, rfl, trivial⟩, by show ((s : Int) - 1 + 1).toNat < ((s : Int) + 1).toNat; omega⟩
    | succ k =>
      rw [show ((k + 1 : Nat) : Int) - 1 = (k : Int) by omega]
      have k0 : (k : Int) ≥ 0 := by omega
      have e1 : (k : Int).tdiv 16 = ((k / 16 : Nat) : Int) := by rw [Int.tdiv_eq_ediv_of_nonneg (by omega)]; omega
      have e2 : (k : Int).tmod 16 = ((k % 16 : Nat) : Int) := by rw [Int.tmod_eq_emod_of_nonneg (by omega)]; omega
      have c0 := u32_at HI.out.2.2.1 (k / 16) (by rw [HI.out.2.2.2.1]; omega)
      have f0 := HI.out.2.2.1.free (k / 16)
      obtain ⟨d, hd⟩ : ∃ d, l.getD (k / 16) 0 = d := ⟨_, rfl⟩
      rw [hd] at c0
      have hk5 : k / 16 < 5 := by omega
      have hk16 : k % 16 < 16 := by omega
      obtain ⟨z, hz⟩ : ∃ z, z = l.getD (k / 16) 0 + 2 ^ (k % 16) := ⟨_, rfl⟩
      have hz1 : z < 65536 := by rw [hz]; exact bit_fits l k HI.out.2.2.2.2.1 (by rw [HI.out.2.2.2.1]; omega) HI.out.2.2.2.2.2.2.1
      have hpw : ((2 : Int) ^ (k % 16)) = ((2 ^ (k % 16) : Nat) : Int) := by rw [Int.natCast_pow]; rfl
      have e3 : ((d : Int) + 2 ^ (k % 16)) % 4294967296 = (z : Int) := by rw [hpw]; omega
      have hbv := bit_value l k (by rw [HI.out.2.2.2.1]; omega)
      rw [← hz] at hbv
      have hl2 : (l.set (k / 16) z).length = 5 := by rw [List.length_set]; exact HI.out.2.2.2.1
      have hW2 : Whole (l.set (k / 16) z) := whole_set HI.out.2.2.2.2.1 _ _ hz1
      have hs := HI.out.2.2.1.set (k / 16) (.int .u32 (z : Int))
      rw [set_map] at hs
      have hgl := HI.out.2.1.other (a := ⟨g3, k / 16, none⟩) HGG.out (.int .u32 (z : Int))
      have hgw := gb_set_new HI.out.1 (p := ⟨g3, k / 16, none⟩) H3.out.2.2.2 (.int .u32 (z : Int))
      obtain ⟨l2, hl2e⟩ : ∃ l2, l2 = l.set (k / 16) z := ⟨_, rfl⟩
      rw [← hl2e] at hs hl2 hW2 hbv
      obtain ⟨w4, hw4⟩ : ∃ w4, w4 = wr.setCell ⟨g3, k / 16, none⟩ (.int .u32 (z : Int)) := ⟨_, rfl⟩
      rw [← hw4] at hs hgl hgw
      have HS := Lib.hid (And.intro hgw (And.intro hgl (And.intro hs (And.intro hl2 (And.intro hW2 (And.intro hbv (And.intro hl2e (And.intro hz hd))))))))
      clear hs hgl hgw hl2 hW2 hbv hl2e
      have he3 := Lib.hid e3
      clear e3 hpw hz hz1
      go_wp2_with fail
      rw [he3.out, ← hw4]
      clear hw4 c0 f0
      refine (times_any l2 l2 g3 g3 5 5 5 5 w4 HS.out.2.2.1 HS.out.2.2.1 HS.out.2.2.2.1 HS.out.2.2.2.1 (by decide) (by decide) HS.out.2.2.2.2.1 HS.out.2.2.2.2.1).mono ?_
      rintro e w5 ⟨g5, C, rfl, hg5, hb5, hl5, hW5, hV5⟩
      have H5 := Lib.hid (And.intro hg5 (And.intro hb5 (And.intro hl5 (And.intro hW5 hV5))))
      clear hg5 hb5 hl5 hW5 hV5
      have HC := Lib.hid (And.intro H5.out.2.1 (And.intro H5.out.2.2.1 H5.out.2.2.2.1))
      rcases hw.out with h2 | h2
      · have i3 : ¬ (wh : Int) = 3 := by omega
        replace h2 := Lib.hid h2
        have hvp : V C = (V l + 2 ^ k) ^ wh := by rw [h2.out, H5.out.2.2.2.2, HS.out.2.2.2.2.2.1, Nat.pow_succ, Nat.pow_one]
        have HG5 := Lib.hid (H5.out.1)
        go_wp2_with fail
        refine (above_any C GL g5 g 10 (4 * wh + 1) 10 (4 * wh + 1) w5 HC.out.1 (HS.out.2.1.grown HG5.out (by simp)) HC.out.2.1 HGL.out.1 (by decide) (by omega) HC.out.2.2 HGL.out.2.1).mono ?_
        rintro e w7 ⟨rfl, rfl⟩
        rw [hvp]
        have hb3 := HS.out.2.2.1.grown HG5.out (by simp)
        by_cases hgt : V GL < (V l + 2 ^ k) ^ wh
        · rw [decide_eq_true hgt]
          have hnx := root_yes HI.out.2.2.2 hgt
          have c7 := u32_at hb3 (k / 16) (by rw [HS.out.2.2.2.1]; omega)
          have f7 := hb3.free (k / 16)
          have hz7 : l2.getD (k / 16) 0 = d + 2 ^ (k % 16) := by rw [HS.out.2.2.2.2.2.2.1, Ns.set_getD _ _ _ _ (by rw [HI.out.2.2.2.1]; omega), if_pos rfl, HS.out.2.2.2.2.2.2.2.1, HS.out.2.2.2.2.2.2.2.2]
          rw [hz7] at c7
          have hpw : ((2 : Int) ^ (k % 16)) = ((2 ^ (k % 16) : Nat) : Int) := by rw [Int.natCast_pow]; rfl
          have hdl : d < 65536 := by rw [← HS.out.2.2.2.2.2.2.2.2]; exact of_whole HI.out.2.2.2.2.1 _
          have e4 : (((d + 2 ^ (k % 16) : Nat) : Int) - 2 ^ (k % 16)) % 4294967296 = (d : Int) := by rw [hpw]; omega
          have hs7 := hb3.set (k / 16) (.int .u32 (d : Int))
          have hsk : l2.set (k / 16) d = l := by rw [HS.out.2.2.2.2.2.2.1, ← HS.out.2.2.2.2.2.2.2.2]; exact set_back _ _ _ (by rw [HI.out.2.2.2.1]; omega)
          rw [set_map, hsk] at hs7
          have HE := Lib.hid (And.intro (gb_set_new (gb_trans HS.out.1 HG5.out) (p := ⟨g3, k / 16, none⟩) H3.out.2.2.2 (.int .u32 (d : Int))) (And.intro ((HS.out.2.1.grown HG5.out (by simp)).other (a := ⟨g3, k / 16, none⟩) HGG.out (.int .u32 (d : Int))) (And.intro hs7 hnx)))
          have HE4 := Lib.hid e4
          clear hs7 hnx e4 hb3 hz7 hpw
          obtain ⟨z7, hz7⟩ : ∃ z7, z7 = d + 2 ^ (k % 16) := ⟨_, rfl⟩
          rw [← hz7] at c7 HE4
          go_wp2
          rw [show (d : Int) % 4294967296 = (d : Int) by omega]
          exact ⟨⟨k, l, by omega, rfl, HE.out.1, HE.out.2.1, HE.out.2.2.1, HE.out.2.2.2⟩, by show ((k : Int) - 1 + 1).toNat < ((k : Int) + 1).toNat; omega⟩
        · rw [decide_eq_false hgt]
          have hnx := root_no HI.out.2.2.2 (by omega) hgt
          rw [← HS.out.2.2.2.2.2.2.2.1, ← HS.out.2.2.2.2.2.2.1] at hnx
          have HE := Lib.hid (And.intro (gb_trans HS.out.1 HG5.out) (And.intro (HS.out.2.1.grown HG5.out (by simp)) (And.intro hb3 hnx)))
          clear hb3 hnx
          go_wp2
          exact ⟨⟨k, l2, by omega, rfl, HE.out.1, HE.out.2.1, HE.out.2.2.1, HE.out.2.2.2⟩, by show ((k : Int) - 1 + 1).toNat < ((k : Int) + 1).toNat; omega⟩
      · have i3 : ((wh : Int) == 3) = true := by rw [h2]; rfl
        replace h2 := Lib.hid h2
        go_wp2_with fail
        refine (times_any C l2 g5 g3 10 5 10 5 w5 H5.out.2.1 (HS.out.2.2.1.grown H5.out.1 (by simp)) H5.out.2.2.1 HS.out.2.2.2.1 (by decide) (by decide) H5.out.2.2.2.1 HS.out.2.2.2.2.1).mono ?_
        rintro e w6 ⟨g6, E, rfl, hg6, hb6, hl6, hW6, hV6⟩
        have HE6 := Lib.hid (And.intro hg6 hV6)
        have HE := Lib.hid (And.intro hb6 (And.intro hl6 hW6))
        clear hg6 hb6 hl6 hW6 hV6
        have hvp : V E = (V l + 2 ^ k) ^ wh := by rw [h2.out, HE6.out.2, H5.out.2.2.2.2, HS.out.2.2.2.2.2.1, Nat.pow_succ, Nat.pow_succ, Nat.pow_one]
        have HG5 := Lib.hid (gb_trans H5.out.1 HE6.out.1)
        go_wp2_with fail
        refine (above_any E GL g6 g 15 (4 * wh + 1) 15 (4 * wh + 1) w6 HE.out.1 (HS.out.2.1.grown HG5.out (by simp)) HE.out.2.1 HGL.out.1 (by decide) (by omega) HE.out.2.2 HGL.out.2.1).mono ?_
        rintro e w7 ⟨rfl, rfl⟩
        rw [hvp]
        have hb3 := HS.out.2.2.1.grown HG5.out (by simp)
        by_cases hgt : V GL < (V l + 2 ^ k) ^ wh
        · rw [decide_eq_true hgt]
          have hnx := root_yes HI.out.2.2.2 hgt
          have c7 := u32_at hb3 (k / 16) (by rw [HS.out.2.2.2.1]; omega)
          have f7 := hb3.free (k / 16)
          have hz7 : l2.getD (k / 16) 0 = d + 2 ^ (k % 16) := by rw [HS.out.2.2.2.2.2.2.1, Ns.set_getD _ _ _ _ (by rw [HI.out.2.2.2.1]; omega), if_pos rfl, HS.out.2.2.2.2.2.2.2.1, HS.out.2.2.2.2.2.2.2.2]
          rw [hz7] at c7
          have hpw : ((2 : Int) ^ (k % 16)) = ((2 ^ (k % 16) : Nat) : Int) := by rw [Int.natCast_pow]; rfl
          have hdl : d < 65536 := by rw [← HS.out.2.2.2.2.2.2.2.2]; exact of_whole HI.out.2.2.2.2.1 _
          have e4 : (((d + 2 ^ (k % 16) : Nat) : Int) - 2 ^ (k % 16)) % 4294967296 = (d : Int) := by rw [hpw]; omega
          have hs7 := hb3.set (k / 16) (.int .u32 (d : Int))
          have hsk : l2.set (k / 16) d = l := by rw [HS.out.2.2.2.2.2.2.1, ← HS.out.2.2.2.2.2.2.2.2]; exact set_back _ _ _ (by rw [HI.out.2.2.2.1]; omega)
          rw [set_map, hsk] at hs7
          have HE := Lib.hid (And.intro (gb_set_new (gb_trans HS.out.1 HG5.out) (p := ⟨g3, k / 16, none⟩) H3.out.2.2.2 (.int .u32 (d : Int))) (And.intro ((HS.out.2.1.grown HG5.out (by simp)).other (a := ⟨g3, k / 16, none⟩) HGG.out (.int .u32 (d : Int))) (And.intro hs7 hnx)))
          have HE4 := Lib.hid e4
          clear hs7 hnx e4 hb3 hz7 hpw
          obtain ⟨z7, hz7⟩ : ∃ z7, z7 = d + 2 ^ (k % 16) := ⟨_, rfl⟩
          rw [← hz7] at c7 HE4
          go_wp2
          rw [show (d : Int) % 4294967296 = (d : Int) by omega]
          exact ⟨⟨k, l, by omega, rfl, HE.out.1, HE.out.2.1, HE.out.2.2.1, HE.out.2.2.2⟩, by show ((k : Int) - 1 + 1).toNat < ((k : Int) + 1).toNat; omega⟩
        · rw [decide_eq_false hgt]
          have hnx := root_no HI.out.2.2.2 (by omega) hgt
          rw [← HS.out.2.2.2.2.2.2.2.1, ← HS.out.2.2.2.2.2.2.1] at hnx
          have HE := Lib.hid (And.intro (gb_trans HS.out.1 HG5.out) (And.intro (HS.out.2.1.grown HG5.out (by simp)) (And.intro hb3 hnx)))
          clear hb3 hnx
          go_wp2
          exact ⟨⟨k, l2, by omega, rfl, HE.out.1, HE.out.2.1, HE.out.2.2.1, HE.out.2.2.2⟩, by show ((k : Int) - 1 + 1).toNat < ((k : Int) + 1).toNat; omega⟩
end Sha
end Go.Proofs.YtjnednikgnapnaaDoor
