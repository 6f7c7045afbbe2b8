/- texts merged -/
import Derived.Test.YtjfclcoppedmoaaGreatDoorSiC5
import Derived.Test.YtjfclcoppedmoaaGreatDoorSiC3
import Derived.Test.YtjfclcoppedmoaaGreatDoorSiC1
import Derived.Deep.Cut
import Derived.Test.YtjfclcoppedmoaaGreatDoorSiC2
import Derived.Test.YtjfclcoppedmoaaGreatDoorSiC4
import Derived.WalkKit
import Derived.Lib.Hide
import Derived.WalkSpells
import Derived.WalkLawsBesides
import Derived.BigQuiet
import Derived.Deep.QuietTactic
import Derived.Outline
import Derived.Lib.AppendZeros
import Derived.Lib.AppendZerosOnto
import Derived.Test.YtjfclcoppedmoaaGreatDoorChecked
import Derived.ProofKit
import Derived.OpenShut
import Derived.ShutString
import Derived.ChangeOld
import Derived.Deep.DeepHandedRow
import Derived.Lib.LaidTab
import Derived.SizedLaws
import Derived.Test.YtjfclcoppedmoaaGreatDoorCards
import Derived.Test.YtjfclcoppedmoaaGreatDoorTie
namespace Go.Proofs.YtjfclcoppedmoaaGreatDoor
section
open Go.RowKit Ow Go.Shelf
theorem elt_bool : ∃ z, Elt 4 74 1 z := by
 obtain ⟨i, z, hi, hz, hs, hb, hc⟩ := info_bool
 exact ⟨z, Tryz.underlying74, i, hi, hz, hs, hb, hc⟩
def ilvV (x y : Nat → Bool) : Nat → List Value
 | 0 => []
 | k + 1 => ilvV x y k ++ [.bool (x k), .bool (y k)]
theorem ilvV_length (x y : Nat → Bool) : ∀ k, (ilvV x y k).length = 2 * k
 | 0 => rfl
 | k + 1 => by rw [ilvV, List.length_append, ilvV_length x y k]; rfl
theorem ilvV_get (x y : Nat → Bool) : ∀ k j, j < 2 * k → (ilvV x y k)[j]? = some (.bool (if j % 2 = 0 then x (j / 2) else y (j / 2)))
 | 0, j, h => by omega
 | k + 1, j, h => by
  rw [ilvV]
  by_cases hj : j < 2 * k
  ·rw [List.getElem?_append_left (by rw [ilvV_length]; exact hj)]
   exact ilvV_get x y k j hj
  ·rw [List.getElem?_append_right (by rw [ilvV_length]; omega), ilvV_length]
   obtain rfl | rfl : j = 2 * k ∨ j = 2 * k + 1 := by omega
   ·rw [Nat.sub_self, if_pos (by omega), show 2 * k / 2 = k by omega]; rfl
   ·rw [show 2 * k + 1 - 2 * k = 1 by omega, if_neg (by omega), show (2 * k + 1) / 2 = k by omega]; rfl
set_option maxRecDepth 100000 in
set_option maxHeartbeats 3200000 in
theorem ilv_any (ga gb : Nat) (x y : Nat → Bool) (w0 : World) (hga : ga < w0.heap.size) (hgb : gb < w0.heap.size) (HX : Hid (∀ j, j < 256 → w0.cell? ⟨ga, j, none⟩ = some (.bool (x j)))) (HY : Hid (∀ j, j < 256 → w0.cell? ⟨gb, j, none⟩ = some (.bool (y j)))) :
  Calls Tryz.prog 39 #[.slice (some ⟨ga, 0, none⟩) 256 256, .slice (some ⟨gb, 0, none⟩) 256 256] w0 fun e w' => ∃ g, e = .returned (.slice (some ⟨g, 0, none⟩) 512 512) ∧ w0.grownBy w' none ∧ w0.heap.size ≤ g ∧ Blk w' g 4 (ilvV x y 256) := by
 obtain ⟨i, z, hi, hz, hs, hb, hcc⟩ := info_bool
 obtain ⟨w1, hmk, ho1, hg1⟩ := run_make_own w0 w0.heap.size 74 4 i z 1 (P := Tryz.prog) Tryz.underlying74 hi hz hs .i64 .i64 512 (by rw [hb]; omega) (by unfold maxLen; omega) (Nat.le_refl _)
 have hmk' : (Instr.makeSlice 74 (.int .i64 0) (.int .i64 512)).run Tryz.prog w0 = .ok (.slice (some ⟨w0.heap.size, 0, none⟩) 0 512) w1 := hmk
 clear hmk hi hz hs hb hcc
 obtain ⟨z', hE⟩ := elt_bool
 have HS := Lib.hid (And.intro ho1 hg1); clear ho1 hg1
 go_enter Tryz.func39, Tryz.ntmps39
 go_wp2
 clear hmk'
 go_loopw [5, 15] (fun v5 i wr => ∃ (k : Nat) (U : World), U = wr ∧ k ≤ 256 ∧ i = .int .i64 k ∧ v5 = .slice (some ⟨w0.heap.size, 0, none⟩) (2 * k) 512 ∧ w0.grownBy U none ∧ U.ownsRow w0.heap.size 4 1 (.slice (some ⟨w0.heap.size, 0, none⟩) (2 * k) 512) (2 * k) (ilvV x y k)) (fun _ i _ => 256 - (intOf i).toNat)
 case atStart => exact ⟨0, w1, rfl, by decide, rfl, rfl, HS.out.2, HS.out.1⟩
 case round =>
  clear HS
  obtain ⟨k, U, rfl, hk, rfl, rfl, hg, ho⟩ := hrel
  by_cases h256 : k < 256
  ·have i0 : (k : Int) < 256 := by omega
   have HO := Lib.hid (And.intro hg ho); clear hg ho
   go_upto_region 5 with (fail)
   obtain ⟨G, ho⟩ := HO.out; clear HO
   have Gs0 := G.size
   refine Fg.rT [] [.any, .any, .any, .any, .any, .any, .any, .any, .any, .any, .any, .any, .any, .any, .any, .any, .any, .any, .val (Value.slice (some ⟨w0.heap.size, 0, none⟩) (2 * k) 512), .val (Value.slice (some ⟨ga, 0, none⟩) 256 256), .val (Value.int .i64 (k : Int)), .val (Value.pointer (some ⟨ga, k, none⟩)), .val (Value.bool (x k)), .val (Value.slice (some ⟨gb, 0, none⟩) 256 256), .val (Value.int .i64 (k : Int)), .val (Value.pointer (some ⟨gb, k, none⟩)), .val (Value.bool (y k)), .row 4 ([.bool (x k), .bool (y k)]) 2 U.heap.size] 10 ?_ ?_
   ·refine Fg.vS rfl (by decide) (fun ac w h => ?_) ?_
    ·have e5 : _ = Value.slice (some ⟨w0.heap.size, 0, none⟩) (2 * k) 512 := h.r 5
     exact Fg.vn (Value.slice (some ⟨w0.heap.size, 0, none⟩) (2 * k) 512) (Fg.run_move rfl e5)
    refine Fg.vS rfl (by decide) (fun ac w h => ?_) ?_
    ·have e0 : _ = Value.slice (some ⟨ga, 0, none⟩) 256 256 := h.r 0
     exact Fg.vn (Value.slice (some ⟨ga, 0, none⟩) 256 256) (Fg.run_move rfl e0)
    refine Fg.vS rfl (by decide) (fun ac w h => ?_) ?_
    ·have e6 : _ = Value.int .i64 (k : Int) := h.r 6
     exact Fg.vn (Value.int .i64 (k : Int)) (Fg.run_move rfl e6)
    refine Fg.vS rfl (by decide) (fun ac w h => ?_) ?_
    ·have e19 : _ = Value.slice (some ⟨ga, 0, none⟩) 256 256 := h.d 19
     have e20 : _ = Value.int .i64 (k : Int) := h.d 20
     refine ⟨wants_none rfl, Value.pointer (some ⟨ga, k, none⟩), w, ?_, gb_refl _ _, rfl⟩
     clear h
     simp only [execOp, Act.eval, e19, e20]
     go_simp
    refine Fg.vS rfl (by decide) (fun ac w h => ?_) ?_
    ·have e21 : _ = Value.pointer (some ⟨ga, k, none⟩) := h.d 21
     have hc : w.cell? ⟨ga, k, none⟩ = some (.bool (x k)) := (gb_cell (gb_trans G h.base) (p := ⟨ga, k, none⟩) hga (by simp)).trans (HX.out k h256)
     refine ⟨wants_none rfl, Value.bool (x k), w, ?_, gb_refl _ _, rfl⟩
     clear h
     simp only [execOp, Act.eval, e21]
     go_simp
    refine Fg.vS rfl (by decide) (fun ac w h => ?_) ?_
    ·have e1 : _ = Value.slice (some ⟨gb, 0, none⟩) 256 256 := h.r 1
     exact Fg.vn (Value.slice (some ⟨gb, 0, none⟩) 256 256) (Fg.run_move rfl e1)
    refine Fg.vS rfl (by decide) (fun ac w h => ?_) ?_
    ·have e6 : _ = Value.int .i64 (k : Int) := h.r 6
     exact Fg.vn (Value.int .i64 (k : Int)) (Fg.run_move rfl e6)
    refine Fg.vS rfl (by decide) (fun ac w h => ?_) ?_
    ·have e23 : _ = Value.slice (some ⟨gb, 0, none⟩) 256 256 := h.d 23
     have e24 : _ = Value.int .i64 (k : Int) := h.d 24
     refine ⟨wants_none rfl, Value.pointer (some ⟨gb, k, none⟩), w, ?_, gb_refl _ _, rfl⟩
     clear h
     simp only [execOp, Act.eval, e23, e24]
     go_simp
    refine Fg.vS rfl (by decide) (fun ac w h => ?_) ?_
    ·have e25 : _ = Value.pointer (some ⟨gb, k, none⟩) := h.d 25
     have hc : w.cell? ⟨gb, k, none⟩ = some (.bool (y k)) := (gb_cell (gb_trans G h.base) (p := ⟨gb, k, none⟩) hgb (by simp)).trans (HY.out k h256)
     refine ⟨wants_none rfl, Value.bool (y k), w, ?_, gb_refl _ _, rfl⟩
     clear h
     simp only [execOp, Act.eval, e25]
     go_simp
    refine Fg.vS rfl (by decide) (fun ac w h => ?_) ?_
    ·have e22 : _ = Value.bool (x k) := h.d 22
     have e26 : _ = Value.bool (y k) := h.d 26
     exact ⟨wants_none rfl, .slice (some ⟨w.heap.size, 0, none⟩) 2 2, w.alloc (.cells #[.bool (x k), .bool (y k)] 4), Fg.run_buildSlice (vs := #[(0, Value.bool (x k)), (1, Value.bool (y k))]) rfl (by simp only [List.map_toArray, List.map_cons, List.map_nil, Act.eval, e22, e26]) (by kernel_rfl), World.grownBy_alloc _ _ _, ⟨w.heap.size, rfl, h.base.size, Blk.new w [.bool (x k), .bool (y k)] _⟩⟩
    trivial
   ·intro qa V1 g1 hsz hdf hrest hslots hpt
    obtain ⟨⟨u16, hs16⟩, ⟨u17, hs17⟩, ⟨u19, hs19⟩, ⟨u20, hs20⟩, ⟨u21, hs21⟩, ⟨u22, hs22⟩, ⟨u23, hs23⟩, ⟨u24, hs24⟩, ⟨u25, hs25⟩, ⟨u26, hs26⟩, _⟩ := Fg.slotvs qa [16, 17, 19, 20, 21, 22, 23, 24, 25, 26]
    obtain ⟨N27, hs27, hn27, hb27⟩ : ∃ N, qa.tmps.getD 27 undef = .slice (some ⟨N, 0, none⟩) 2 2 ∧ U.heap.size ≤ N ∧ Blk V1 N 4 ([.bool (x k), .bool (y k)]) := hslots 27 (by kernel_rfl)
    obtain ⟨u28, hs28⟩ := Fg.slotv qa 28
    obtain ⟨u29, hs29⟩ := Fg.slotv qa 29
    obtain rfl := Fg.frame_by [16, 17, 18, 19, 20, 21, 22, 23, 24, 25, 26, 27, 28, 29] (vs := [Value.slice (some ⟨ga, 0, none⟩) 256 256, Value.slice (some ⟨gb, 0, none⟩) 256 256, undef, undef, Value.slice none 0 0, Value.slice (some ⟨w0.heap.size, 0, none⟩) (2 * k) 512, Value.int .i64 (k : Int), Value.slice (some ⟨ga, 0, none⟩) 256 256, Value.int .i64 256, Value.slice (some ⟨gb, 0, none⟩) 256 256, Value.int .i64 256, Value.int .i64 512, Value.slice (some ⟨w0.heap.size, 0, none⟩) 0 512, Value.slice (some ⟨ga, 0, none⟩) 256 256, Value.int .i64 256, Value.int .i64 (k : Int), u16, u17, Value.slice (some ⟨w0.heap.size, 0, none⟩) (2 * k) 512, u19, u20, u21, u22, u23, u24, u25, u26, Value.slice (some ⟨N27, 0, none⟩) 2 2, u28, u29, undef]) hsz hrest (by kernel_rfl) rfl rfl ⟨hs16, hs17, (show qa.tmps.getD 18 undef = Value.slice (some ⟨w0.heap.size, 0, none⟩) (2 * k) 512 from hslots 18 (by kernel_rfl)), hs19, hs20, hs21, hs22, hs23, hs24, hs25, hs26, hs27, hs28, hs29, trivial⟩ hdf
    clear hsz hdf hrest hslots hpt hs16 hs17 hs19 hs20 hs21 hs22 hs23 hs24 hs25 hs26 hs27 hs28 hs29
    replace G := gb_trans G g1
    have hw27 : w0.heap.size ≤ N27 := Nat.le_trans Gs0 hn27
    skip
    obtain ⟨_, w', hap, ho2, hg2⟩ | ⟨hno, _⟩ := append_cases hE V1 w0.heap.size w0.heap.size (2 * k) 512 (ilvV x y k) (ho.kept g1 (Or.inr (by simp [Value.ownBlock]))) ⟨N27, 0, none⟩ 2 2 [.bool (x k), .bool (y k)] rfl (fun j u hu => by rw [Addr.add_mid, Nat.zero_add]; exact hb27.cell hu) (by intro u hu; simp at hu; rcases hu with rfl | rfl <;> rfl) (by omega) (by omega)
    ·refine wpList_append_run rfl (.tmp 18) (.tmp 27) 74 rfl rfl _ _ rfl rfl _ _ hap ?_
     simp only [Act.put, List.setIfInBounds_toArray, List.set_cons_succ, List.set_cons_zero]
     refine Fg.wpl_value (v := .slice (some ⟨w0.heap.size, 0, none⟩) (2 * k + 2) 512) (w' := w') rfl (Fg.run_assign rfl rfl) ?_
     refine wpList_nil ?_
     simp only [Act.put, List.setIfInBounds_toArray, List.set_cons_succ, List.set_cons_zero]
     have G2 := gb_then G hg2 (Nat.le_refl _)
     have HN := Lib.hid (And.intro G2 ho2); clear G2 ho2 hg2 G ho hap hb27
     go_wp2
     go_roundw
     all_goals first
      | exact ⟨k + 1, _, rfl, by omega, by go_num, rfl, HN.out.1, HN.out.2⟩
      | (simp [intOf]; omega)
    ·omega
  ·have i0 : ¬ (k : Int) < 256 := by omega
   obtain rfl : k = 256 := by omega
   have HN := Lib.hid (And.intro hg ho); clear hg ho
   go_wp2
   go_ret
   obtain ⟨hbk, _⟩ := own_blk HN.out.2
   exact ⟨w0.heap.size, rfl, HN.out.1, Nat.le_refl _, hbk⟩
end
section
open Go.RowKit Ow Go.Shelf Ed
theorem grps_congr {b b' : Nat → Bool} (G : Nat) (h : ∀ j, j < 4 * G → b j = b' j) : grpsTo b G G = grpsTo b' G G := by
 unfold grpsTo
 apply List.map_congr_left
 intro t ht
 have ht2 : t < G := List.mem_range.1 ht
 apply Subtype.ext
 show grp b (G - 1 - t) = grp b' (G - 1 - t)
 unfold grp
 rw [h (4 * (G - 1 - t) + 3) (by omega), h (4 * (G - 1 - t) + 2) (by omega), h (4 * (G - 1 - t) + 1) (by omega), h (4 * (G - 1 - t)) (by omega)]
def ilB (l m : List Nat) (j : Nat) : Bool := if j % 2 = 0 then bitAt (fun i => l.getD i 0) (j / 2) else bitAt (fun i => m.getD i 0) (j / 2)
theorem ilB_num (l m : List Nat) (hl : l.length = 32) (hm : m.length = 32) (hb : ∀ i, l.getD i 0 < 256) (hc : ∀ i, m.getD i 0 < 256) (j : Nat) (hj : j < 4 * 128) : ilB l m j = ilv (num l) (num m) j := by
 unfold ilB ilv
 rw [bit_num l hl hb (j / 2) (by omega), bit_num m hm hc (j / 2) (by omega)]
theorem both_is {r q : Pr} (hr : On r) (hq : On q) (l m : List Nat) (hl : l.length = 32) (hm : m.length = 32) (hb : ∀ i, l.getD i 0 < 256) (hc : ∀ i, m.getD i 0 < 256) :
  gthTo 2 (chs [r, q, Ed.add r r, Ed.add q q]) (grpsTo (ilB l m) 128 128) = Ed.add (nmul (num l) r) (nmul (num m) q) := by
 have h2 : Ed.add r r = nmul 2 r := (nmul_two hr).symm
 have k2 : Ed.add q q = nmul 2 q := (nmul_two hq).symm
 have hM : num l < 2 ^ (2 * 128) := by have := num_lt l hb; rwa [hl] at this
 have hN : num m < 2 ^ (2 * 128) := by have := num_lt m hc; rwa [hm] at this
 rw [h2, k2, grps_congr 128 (ilB_num l m hl hm hb hc), gth_both hr hq (num l) (num m) 128 hM hN 128 (Nat.le_refl _), Nat.sub_self, Nat.mul_zero, Nat.pow_zero, Nat.div_one, Nat.div_one]
set_option maxRecDepth 100000 in
set_option maxHeartbeats 12800000 in
theorem edBoth (p : Pt) (r : Pr) (la lb : List Nat) (ca cb Ba Bb : Nat) (aa ab : Option Addr) (w0 : World) (HT0 : ETab w0) (hp : PtIs p r) (hla : la.length = 32) (hlb : lb.length = 32) (HPa : Hid (BytesAt w0 Ba aa ca la)) (HPb : Hid (BytesAt w0 Bb ab cb lb)) :
  Calls Tryz.prog 21 #[.slice aa 32 ca, p.v, .slice ab 32 cb] w0 fun e w' => PtOut (Ed.add (nmul (num la) r) (nmul (num lb) baseR)) w0 e w' := by
 show Calls Tryz.prog 21 #[.slice aa 32 ca, .agg (ptL p).toArray, .slice ab 32 cb] w0 _
 go_enter Tryz.func21, Tryz.ntmps21
 go_upto_region 1 with (fail)
 have G : w0.grownBy ((w0.alloc (.cells (ptL p).toArray 36)).alloc (.cells zr20.toArray 36)) none := gb_alloc (gb_alloc (gb_refl _ _) _) _
 have HT : ETab ((w0.alloc (.cells (ptL p).toArray 36)).alloc (.cells zr20.toArray 36)) := HT0.grown (gb_alloc (gb_alloc (gb_refl _ _) _) _)
 have hP : Blk ((w0.alloc (.cells (ptL p).toArray 36)).alloc (.cells zr20.toArray 36)) (w0.heap.size) 36 (ptL p) := (Blk.new w0 (ptL p) _).alloc _
 have hR : Blk ((w0.alloc (.cells (ptL p).toArray 36)).alloc (.cells zr20.toArray 36)) (w0.heap.size + 1) 36 zr20 := Blk.newAt (w0.alloc _) zr20 _ (by simp)
 revert G HT hP hR
 generalize (w0.alloc (.cells (ptL p).toArray 36)).alloc (.cells zr20.toArray 36) = W0
 intro G HT hP hR
 have Gs := G.size
 go_upto_region 5 with (fail)
 have Gs0 := G.size
 have l1hP := hP.lt
 have l1hR := hR.lt
 refine Fg.rP [] [.any, .any, .any, .any, .any, .any, .any, .any, .any, .any, .any, .any, .any, .any, .any, .any, .any, .any, .any, .any, .val (Value.slice aa 32 ca), .row 4 ((bitsTo (fun i => la.getD i 0) 256).map Value.bool) 256 W0.heap.size, .val (Value.slice ab 32 cb), .row 4 ((bitsTo (fun i => lb.getD i 0) 256).map Value.bool) 256 W0.heap.size] 4 ?_ ?_
 ·refine Fg.vS rfl (by decide) (fun ac w h => ?_) ?_
  ·have e0 : _ = Value.slice aa 32 ca := h.r 0
   exact Fg.vn (Value.slice aa 32 ca) (Fg.run_move rfl e0)
  refine Fg.cS rfl (by decide) (fun ac w h => ?_) ?_
  ·have e20 : _ = Value.slice aa 32 ca := h.d 20
   refine ⟨wants_none rfl, 40, #[Value.slice aa 32 ca], Fg.run_call rfl rfl (by simp only [List.map_toArray, List.map_cons, List.map_nil, Act.eval, e20]) (Fg.run_enter Tryz.func40 (by kernel_rfl) (by kernel_rfl)), ?_⟩
   exact (bits_row ca Ba aa la _ hla (HPa.out.stay (gb_trans G h.base))).mono fun _ _ ⟨NB, he, hg, hn, hb⟩ => ⟨_, he, hg, ⟨NB, rfl, Nat.le_trans h.base.size hn, hb⟩⟩
  refine Fg.vS rfl (by decide) (fun ac w h => ?_) ?_
  ·have e2 : _ = Value.slice ab 32 cb := h.r 2
   exact Fg.vn (Value.slice ab 32 cb) (Fg.run_move rfl e2)
  refine Fg.cS rfl (by decide) (fun ac w h => ?_) ?_
  ·have e22 : _ = Value.slice ab 32 cb := h.d 22
   refine ⟨wants_none rfl, 40, #[Value.slice ab 32 cb], Fg.run_call rfl rfl (by simp only [List.map_toArray, List.map_cons, List.map_nil, Act.eval, e22]) (Fg.run_enter Tryz.func40 (by kernel_rfl) (by kernel_rfl)), ?_⟩
   exact (bits_row cb Bb ab lb _ hlb (HPb.out.stay (gb_trans G h.base))).mono fun _ _ ⟨NB, he, hg, hn, hb⟩ => ⟨_, he, hg, ⟨NB, rfl, Nat.le_trans h.base.size hn, hb⟩⟩
  trivial
 ·intro qa V1 g1 hsz hdf hrest hslots hpt
  obtain ⟨⟨u8, hs8⟩, ⟨u9, hs9⟩, ⟨u10, hs10⟩, ⟨u14, hs14⟩, ⟨u15, hs15⟩, ⟨u16, hs16⟩, ⟨u20, hs20⟩, _⟩ := Fg.slotvs qa [8, 9, 10, 14, 15, 16, 20]
  obtain ⟨N21, hs21, hn21, hb21⟩ : ∃ N, qa.tmps.getD 21 undef = .slice (some ⟨N, 0, none⟩) 256 256 ∧ W0.heap.size ≤ N ∧ Blk V1 N 4 ((bitsTo (fun i => la.getD i 0) 256).map Value.bool) := hslots 21 (by kernel_rfl)
  obtain ⟨u22, hs22⟩ := Fg.slotv qa 22
  obtain ⟨N23, hs23, hn23, hb23⟩ : ∃ N, qa.tmps.getD 23 undef = .slice (some ⟨N, 0, none⟩) 256 256 ∧ W0.heap.size ≤ N ∧ Blk V1 N 4 ((bitsTo (fun i => lb.getD i 0) 256).map Value.bool) := hslots 23 (by kernel_rfl)
  obtain rfl := Fg.frame_by [8, 9, 10, 14, 15, 16, 20, 21, 22, 23] (vs := [Value.slice aa 32 ca, p.v, Value.slice ab 32 cb, undef, Value.pointer (some ⟨w0.heap.size, 0, none⟩), undef, Value.pointer (some ⟨w0.heap.size + 1, 0, none⟩), undef, u8, u9, u10, undef, undef, undef, u14, u15, u16, undef, undef, undef, u20, Value.slice (some ⟨N21, 0, none⟩) 256 256, u22, Value.slice (some ⟨N23, 0, none⟩) 256 256, undef, undef, undef, undef, undef, undef, undef, undef, undef, undef]) hsz hrest (by kernel_rfl) rfl rfl ⟨hs8, hs9, hs10, hs14, hs15, hs16, hs20, hs21, hs22, hs23, trivial⟩ hdf
  clear hsz hdf hrest hslots hpt hs8 hs9 hs10 hs14 hs15 hs16 hs20 hs21 hs22 hs23
  replace hP := hP.gn g1
  replace hR := hR.gn g1
  replace G := gb_trans G g1
  replace HT := HT.grown g1
  have hw21 : w0.heap.size ≤ N21 := Nat.le_trans Gs0 hn21
  have hw23 : w0.heap.size ≤ N23 := Nat.le_trans Gs0 hn23
  clear g1
  have l2hP := hP.lt
  have l2hR := hR.lt
  have l2hb21 := hb21.lt
  have l2hb23 := hb23.lt
  refine Fg.wpl_call rfl (Fg.run_call (vs := #[.slice (some ⟨N21, 0, none⟩) 256 256, .slice (some ⟨N23, 0, none⟩) 256 256]) rfl rfl (by simp only [List.map_toArray, List.map_cons, List.map_nil, Act.eval]; rfl) (Fg.run_enter Tryz.func39 (by kernel_rfl) (by kernel_rfl))) ?_
  refine (ilv_any N21 N23 (bitAt fun i => la.getD i 0) (bitAt fun i => lb.getD i 0) V1 hb21.lt hb23.lt (Lib.hid (fun j hj => bits_cell hb21 j hj)) (Lib.hid (fun j hj => bits_cell hb23 j hj))).mono ?_
  rintro e C5 ⟨g7, rfl, ga, hn7, hb7⟩
  refine ⟨_, rfl, ?_⟩
  have hw7 : w0.heap.size ≤ g7 := Nat.le_trans G.size hn7
  replace hP := hP.gn ga
  replace hR := hR.gn ga
  replace hb21 := hb21.gn ga
  replace hb23 := hb23.gn ga
  replace G := gb_trans G ga
  replace HT := HT.grown ga
  clear ga
  simp only [Act.put, List.setIfInBounds_toArray, List.set_cons_succ, List.set_cons_zero]
  refine Fg.wpl_value (v := .slice (some ⟨g7, 0, none⟩) 512 512) (w' := C5) rfl (Fg.run_assign rfl rfl) ?_
  refine wpList_nil ?_
  simp only [Act.put, List.setIfInBounds_toArray, List.set_cons_succ, List.set_cons_zero]
  go_upto_region 6 with (fail)
  have Gs1 := G.size
  have l3hP := hP.lt
  have l3hR := hR.lt
  have l3hb21 := hb21.lt
  have l3hb23 := hb23.lt
  have l3hb7 := hb7.lt
  refine Fg.rT [] [.any, .any, .any, .any, .any, .any, .any, .any, .any, .any, .any, .any, .any, .any, .any, .any, .any, .any, .any, .any, .any, .any, .any, .any, .any, .val (Value.slice (some ⟨g7, 0, none⟩) 512 512), .val (p.v), .val (baseT.v), .val (p.v), .val ((dblF p).v), .val (baseT.v), .val ((dblF baseT).v), .row 36 (ptsL [p, baseT, dblF p, dblF baseT]) 4 C5.heap.size] 8 ?_ ?_
  ·refine Fg.vS rfl (by decide) (fun ac w h => ?_) ?_
   ·have e7 : _ = Value.slice (some ⟨g7, 0, none⟩) 512 512 := h.r 7
    exact Fg.vn (Value.slice (some ⟨g7, 0, none⟩) 512 512) (Fg.run_move rfl e7)
   refine Fg.vS rfl (by decide) (fun ac w h => ?_) ?_
   ·have e4 : _ = Value.pointer (some ⟨w0.heap.size, 0, none⟩) := h.r 4
    exact Fg.vn p.v (Fg.run_load rfl e4 ((hP.gn h.base).range 0 (ptL p) rfl) Tryz.underlying36 rfl info_point)
   refine Fg.cS rfl (by decide) (fun ac w h => ?_) ?_
   ·refine ⟨wants_none rfl, 32, #[], Fg.run_call rfl rfl (by simp) (Fg.run_enter Tryz.func32 (by kernel_rfl) (by kernel_rfl)), ?_⟩
    exact (edBase _ (HT.grown h.base)).mono fun _ _ ⟨he, hg⟩ => ⟨_, he, hg, rfl⟩
   refine Fg.vS rfl (by decide) (fun ac w h => ?_) ?_
   ·have e4 : _ = Value.pointer (some ⟨w0.heap.size, 0, none⟩) := h.r 4
    exact Fg.vn p.v (Fg.run_load rfl e4 ((hP.gn h.base).range 0 (ptL p) rfl) Tryz.underlying36 rfl info_point)
   refine Fg.cS rfl (by decide) (fun ac w h => ?_) ?_
   ·have e28 : _ = p.v := h.d 28
    refine ⟨wants_none rfl, 42, #[p.v], Fg.run_call rfl rfl (by simp only [List.map_toArray, List.map_cons, List.map_nil, Act.eval, e28]) (Fg.run_enter Tryz.func42 (by kernel_rfl) (by kernel_rfl)), ?_⟩
    exact (edDbl p _ _ (HT.grown h.base) hp).mono fun _ _ ⟨he, hg⟩ => ⟨_, he, hg, rfl⟩
   refine Fg.cS rfl (by decide) (fun ac w h => ?_) ?_
   ·refine ⟨wants_none rfl, 32, #[], Fg.run_call rfl rfl (by simp) (Fg.run_enter Tryz.func32 (by kernel_rfl) (by kernel_rfl)), ?_⟩
    exact (edBase _ (HT.grown h.base)).mono fun _ _ ⟨he, hg⟩ => ⟨_, he, hg, rfl⟩
   refine Fg.cS rfl (by decide) (fun ac w h => ?_) ?_
   ·have e30 : _ = baseT.v := h.d 30
    refine ⟨wants_none rfl, 42, #[baseT.v], Fg.run_call rfl rfl (by simp only [List.map_toArray, List.map_cons, List.map_nil, Act.eval, e30]) (Fg.run_enter Tryz.func42 (by kernel_rfl) (by kernel_rfl)), ?_⟩
    exact (edDbl baseT _ _ (HT.grown h.base) baseIs).mono fun _ _ ⟨he, hg⟩ => ⟨_, he, hg, rfl⟩
   refine Fg.vS rfl (by decide) (fun ac w h => ?_) ?_
   ·have e26 : _ = p.v := h.d 26
    have e27 : _ = baseT.v := h.d 27
    have e29 : _ = (dblF p).v := h.d 29
    have e31 : _ = (dblF baseT).v := h.d 31
    exact ⟨wants_none rfl, .slice (some ⟨w.heap.size, 0, none⟩) 4 4, w.alloc (.cells (ptsL [p, baseT, dblF p, dblF baseT]).toArray 36), Fg.run_buildSlice (vs := #[(0, p.v), (1, baseT.v), (2, (dblF p).v), (3, (dblF baseT).v)]) rfl (by simp only [List.map_toArray, List.map_cons, List.map_nil, Act.eval, e26, e27, e29, e31]) (by kernel_rfl), World.grownBy_alloc _ _ _, ⟨w.heap.size, rfl, h.base.size, Blk.new w (ptsL [p, baseT, dblF p, dblF baseT]) _⟩⟩
   trivial
  ·intro qa V2 g2 hsz hdf hrest hslots hpt
   obtain ⟨⟨u20, hs20⟩, ⟨u21, hs21⟩, ⟨u22, hs22⟩, ⟨u23, hs23⟩, ⟨u24, hs24⟩, ⟨u26, hs26⟩, ⟨u27, hs27⟩, ⟨u28, hs28⟩, ⟨u29, hs29⟩, ⟨u30, hs30⟩, ⟨u31, hs31⟩, _⟩ := Fg.slotvs qa [20, 21, 22, 23, 24, 26, 27, 28, 29, 30, 31]
   obtain ⟨N32, hs32, hn32, hb32⟩ : ∃ N, qa.tmps.getD 32 undef = .slice (some ⟨N, 0, none⟩) 4 4 ∧ C5.heap.size ≤ N ∧ Blk V2 N 36 (ptsL [p, baseT, dblF p, dblF baseT]) := hslots 32 (by kernel_rfl)
   obtain rfl := Fg.frame_by [20, 21, 22, 23, 24, 25, 26, 27, 28, 29, 30, 31, 32] (vs := [Value.slice aa 32 ca, p.v, Value.slice ab 32 cb, undef, Value.pointer (some ⟨w0.heap.size, 0, none⟩), undef, Value.pointer (some ⟨w0.heap.size + 1, 0, none⟩), Value.slice (some ⟨g7, 0, none⟩) 512 512, u8, u9, u10, undef, undef, undef, u14, u15, u16, undef, undef, undef, u20, u21, u22, u23, u24, Value.slice (some ⟨g7, 0, none⟩) 512 512, u26, u27, u28, u29, u30, u31, Value.slice (some ⟨N32, 0, none⟩) 4 4, undef]) hsz hrest (by kernel_rfl) rfl rfl ⟨hs20, hs21, hs22, hs23, hs24, (show qa.tmps.getD 25 undef = Value.slice (some ⟨g7, 0, none⟩) 512 512 from hslots 25 (by kernel_rfl)), hs26, hs27, hs28, hs29, hs30, hs31, hs32, trivial⟩ hdf
   clear hsz hdf hrest hslots hpt hs20 hs21 hs22 hs23 hs24 hs26 hs27 hs28 hs29 hs30 hs31 hs32
   replace hP := hP.gn g2
   replace hR := hR.gn g2
   replace hb21 := hb21.gn g2
   replace hb23 := hb23.gn g2
   replace hb7 := hb7.gn g2
   replace G := gb_trans G g2
   replace HT := HT.grown g2
   have hw32 : w0.heap.size ≤ N32 := Nat.le_trans Gs1 hn32
   clear g2
   have l4hP := hP.lt
   have l4hR := hR.lt
   have l4hb21 := hb21.lt
   have l4hb23 := hb23.lt
   have l4hb7 := hb7.lt
   have l4hb32 := hb32.lt
   refine Fg.wpl_call rfl (Fg.run_call (vs := #[.int .i64 2, .slice (some ⟨g7, 0, none⟩) 512 512, .slice (some ⟨N32, 0, none⟩) 4 4]) rfl rfl (by simp only [List.map_toArray, List.map_cons, List.map_nil, Act.eval]; rfl) (Fg.run_enter Tryz.func41 (by kernel_rfl) (by kernel_rfl))) ?_
   refine (gather_any 2 N32 g7 512 128 [p, baseT, dblF p, dblF baseT] [r, baseR, Ed.add r r, Ed.add baseR baseR] [] (ilB la lb) V2 HT (by decide) rfl (by decide) (by decide) rfl (ptsAre4 hp baseIs (dblIs hp) (dblIs baseIs)) (by rw [List.append_nil]; exact hb32) hb7.lt (fun j hj => hb7.cell (ilvV_get _ _ 256 j (by omega)))).mono ?_
   rintro e C9 ⟨t9, ht9, rfl, gc⟩
   refine ⟨_, rfl, ?_⟩
   rw [both_is hp.on base_on la lb hla hlb HPa.out.byte HPb.out.byte] at ht9
   have Ht9 := Lib.hid ht9; clear ht9
   replace hP := hP.gn gc
   replace hR := hR.gn gc
   replace hb21 := hb21.gn gc
   replace hb23 := hb23.gn gc
   replace hb7 := hb7.gn gc
   replace hb32 := hb32.gn gc
   replace G := gb_trans G gc
   replace HT := HT.grown gc
   clear gc
   refine Fg.wpl_skip rfl rfl (Fg.run_store (cs := ptL t9) rfl rfl rfl (hR.there 0 20 (by show 0 + 20 ≤ 20; decide)) info_point (ptL_one _)) ?_
   replace hP := hP.setCells_other (C := (w0.heap.size + 1)) (cs := ptL t9) 0 (by omega)
   replace hR : Blk (C9.setCells (w0.heap.size + 1) 0 (ptL t9)) (w0.heap.size + 1) 36 (ptL t9) := hR.setAll rfl
   replace hb21 := hb21.setCells_other (C := (w0.heap.size + 1)) (cs := ptL t9) 0 (by omega)
   replace hb23 := hb23.setCells_other (C := (w0.heap.size + 1)) (cs := ptL t9) 0 (by omega)
   replace hb7 := hb7.setCells_other (C := (w0.heap.size + 1)) (cs := ptL t9) 0 (by omega)
   replace hb32 := hb32.setCells_other (C := (w0.heap.size + 1)) (cs := ptL t9) 0 (by omega)
   replace G := gb_setCells_new (cs := ptL t9) G (B := (w0.heap.size + 1)) (by omega) 0
   replace HT := HT.keep (gb_setCells (cs := ptL t9) (gb_refl _ (some (w0.heap.size + 1))) 0) (HT0.noG (by omega))
   revert hP hR hb21 hb23 hb7 hb32 G HT
   generalize C9.setCells (w0.heap.size + 1) 0 (ptL t9) = W3
   intro hP hR hb21 hb23 hb7 hb32 G HT
   go_wp2_with fail
   exact bodyPost_ret (v := t9.v) (results_cell_row Tryz.results21 _ _ (w0.heap.size + 1) 36 (ptL t9).toArray (0, 0) _ rfl hR Tryz.underlying36 rfl info_point) rfl ⟨t9, Ht9.out, rfl, G⟩
end
section
open Go.RowKit Ed
def sx (p q : Pt) : Bool := decide (Fe.m (Fe.mulF p.X q.Z) = Fe.m (Fe.mulF q.X p.Z))
def sy (p q : Pt) : Bool := decide (Fe.m (Fe.mulF p.Y q.Z) = Fe.m (Fe.mulF q.Y p.Z))
set_option maxRecDepth 100000 in
set_option maxHeartbeats 3200000 in
theorem same_tt (p q : Pt) (w0 : World) (okp : p.Ok) (okq : q.Ok) (h1 : sx p q = true) (h2 : sy p q = true) :
  Calls Tryz.prog 20 #[p.v, q.v] w0 fun e w' => e = .returned (.bool true) ∧ w0.grownBy w' none := by
 show Calls Tryz.prog 20 #[.agg (ptL p).toArray, .agg (ptL q).toArray] w0 _
 go_enter Tryz.func20, Tryz.ntmps20
 go_upto_region 1 with (fail)
 have G : w0.grownBy ((w0.alloc (.cells (ptL p).toArray 36)).alloc (.cells (ptL q).toArray 36)) none := gb_alloc (gb_alloc (gb_refl _ _) _) _
 have hP : Blk ((w0.alloc (.cells (ptL p).toArray 36)).alloc (.cells (ptL q).toArray 36)) (w0.heap.size) 36 (ptL p) := (Blk.new w0 (ptL p) _).alloc _
 have hQ : Blk ((w0.alloc (.cells (ptL p).toArray 36)).alloc (.cells (ptL q).toArray 36)) (w0.heap.size + 1) 36 (ptL q) := Blk.newAt (w0.alloc _) (ptL q) _ (by simp)
 revert G hP hQ
 generalize (w0.alloc (.cells (ptL p).toArray 36)).alloc (.cells (ptL q).toArray 36) = W0
 intro G hP hQ
 have Gs := G.size
 have Gs0 := G.size
 have l1hP := hP.lt
 have l1hQ := hQ.lt
 refine Fg.rT [] [.any, .any, .any, .any, .val (Value.bool true), .val (Value.pointer (some ⟨w0.heap.size, 0, none⟩)), .val (p.X.v), .val (Value.pointer (some ⟨w0.heap.size + 1, 10, none⟩)), .val (q.Z.v), .val ((Fe.mulF p.X q.Z).v), .val (Value.pointer (some ⟨w0.heap.size + 1, 0, none⟩)), .val (q.X.v), .val (Value.pointer (some ⟨w0.heap.size, 10, none⟩)), .val (p.Z.v), .val ((Fe.mulF q.X p.Z).v), .val (Value.bool true), .val (Value.bool true), .val (Value.pointer (some ⟨w0.heap.size, 5, none⟩)), .val (p.Y.v), .val (Value.pointer (some ⟨w0.heap.size + 1, 10, none⟩)), .val (q.Z.v), .val ((Fe.mulF p.Y q.Z).v), .val (Value.pointer (some ⟨w0.heap.size + 1, 5, none⟩)), .val (q.Y.v), .val (Value.pointer (some ⟨w0.heap.size, 10, none⟩)), .val (p.Z.v), .val ((Fe.mulF q.Y p.Z).v), .val (Value.bool true), .val (Value.bool true)] 25 ?_ ?_
 ·refine Fg.vS rfl (by decide) (fun ac w h => ?_) ?_
  ·have e2 : _ = Value.pointer (some ⟨w0.heap.size, 0, none⟩) := h.r 2
   exact Fg.vn (Value.pointer (some ⟨w0.heap.size, 0, none⟩)) (Fg.run_fieldAddr rfl e2 (fa_point0 _ _ _))
  refine Fg.vS rfl (by decide) (fun ac w h => ?_) ?_
  ·have e5 : _ = Value.pointer (some ⟨w0.heap.size, 0, none⟩) := h.d 5
   exact Fg.vn p.X.v (Fg.run_load rfl e5 ((hP.gn h.base).range 0 (feL p.X) rfl) Tryz.underlying34 rfl info_elem)
  refine Fg.vS rfl (by decide) (fun ac w h => ?_) ?_
  ·have e3 : _ = Value.pointer (some ⟨w0.heap.size + 1, 0, none⟩) := h.r 3
   exact Fg.vn (Value.pointer (some ⟨w0.heap.size + 1, 10, none⟩)) (Fg.run_fieldAddr rfl e3 (fa_point2 _ _ _))
  refine Fg.vS rfl (by decide) (fun ac w h => ?_) ?_
  ·have e7 : _ = Value.pointer (some ⟨w0.heap.size + 1, 10, none⟩) := h.d 7
   exact Fg.vn q.Z.v (Fg.run_load rfl e7 ((hQ.gn h.base).range 10 (feL q.Z) rfl) Tryz.underlying34 rfl info_elem)
  refine Fg.cS rfl (by decide) (fun ac w h => ?_) ?_
  ·have e6 : _ = p.X.v := h.d 6
   have e8 : _ = q.Z.v := h.d 8
   refine ⟨wants_none rfl, 38, #[p.X.v, q.Z.v], Fg.run_call rfl rfl (by simp only [List.map_toArray, List.map_cons, List.map_nil, Act.eval, e6, e8]) (Fg.run_enter Tryz.func38 (by kernel_rfl) (by kernel_rfl)), ?_⟩
   exact (t_mul okp.X okq.Z).mono fun _ _ ⟨he, hg⟩ => ⟨_, he, hg, rfl⟩
  refine Fg.vS rfl (by decide) (fun ac w h => ?_) ?_
  ·have e3 : _ = Value.pointer (some ⟨w0.heap.size + 1, 0, none⟩) := h.r 3
   exact Fg.vn (Value.pointer (some ⟨w0.heap.size + 1, 0, none⟩)) (Fg.run_fieldAddr rfl e3 (fa_point0 _ _ _))
  refine Fg.vS rfl (by decide) (fun ac w h => ?_) ?_
  ·have e10 : _ = Value.pointer (some ⟨w0.heap.size + 1, 0, none⟩) := h.d 10
   exact Fg.vn q.X.v (Fg.run_load rfl e10 ((hQ.gn h.base).range 0 (feL q.X) rfl) Tryz.underlying34 rfl info_elem)
  refine Fg.vS rfl (by decide) (fun ac w h => ?_) ?_
  ·have e2 : _ = Value.pointer (some ⟨w0.heap.size, 0, none⟩) := h.r 2
   exact Fg.vn (Value.pointer (some ⟨w0.heap.size, 10, none⟩)) (Fg.run_fieldAddr rfl e2 (fa_point2 _ _ _))
  refine Fg.vS rfl (by decide) (fun ac w h => ?_) ?_
  ·have e12 : _ = Value.pointer (some ⟨w0.heap.size, 10, none⟩) := h.d 12
   exact Fg.vn p.Z.v (Fg.run_load rfl e12 ((hP.gn h.base).range 10 (feL p.Z) rfl) Tryz.underlying34 rfl info_elem)
  refine Fg.cS rfl (by decide) (fun ac w h => ?_) ?_
  ·have e11 : _ = q.X.v := h.d 11
   have e13 : _ = p.Z.v := h.d 13
   refine ⟨wants_none rfl, 38, #[q.X.v, p.Z.v], Fg.run_call rfl rfl (by simp only [List.map_toArray, List.map_cons, List.map_nil, Act.eval, e11, e13]) (Fg.run_enter Tryz.func38 (by kernel_rfl) (by kernel_rfl)), ?_⟩
   exact (t_mul okq.X okp.Z).mono fun _ _ ⟨he, hg⟩ => ⟨_, he, hg, rfl⟩
  refine Fg.cS rfl (by decide) (fun ac w h => ?_) ?_
  ·have e9 : _ = (Fe.mulF p.X q.Z).v := h.d 9
   have e14 : _ = (Fe.mulF q.X p.Z).v := h.d 14
   refine ⟨wants_none rfl, 37, #[(Fe.mulF p.X q.Z).v, (Fe.mulF q.X p.Z).v], Fg.run_call rfl rfl (by simp only [List.map_toArray, List.map_cons, List.map_nil, Act.eval, e9, e14]) (Fg.run_enter Tryz.func37 (by kernel_rfl) (by kernel_rfl)), ?_⟩
   exact (t_same (Fe.mul_right _ _).ok (Fe.mul_right _ _).ok h1).mono fun _ _ ⟨he, hg⟩ => ⟨_, he, hg, rfl⟩
  refine Fg.vS rfl (by decide) (fun ac w h => ?_) ?_
  ·have e15 : _ = Value.bool true := h.d 15
   exact Fg.vn (Value.bool true) (Fg.run_move rfl e15)
  refine Fg.vS rfl (by decide) (fun ac w h => ?_) ?_
  ·have e16 : _ = Value.bool true := h.d 16
   have e2 : _ = Value.pointer (some ⟨w0.heap.size, 0, none⟩) := h.r 2
   exact Fg.vx (Value.pointer (some ⟨w0.heap.size, 5, none⟩)) (wants_some (d := 16) rfl rfl (by rw [h.size]; show 16 < 29; decide) e16) (Fg.run_fieldAddr rfl e2 (fa_point1 _ _ _))
  refine Fg.vS rfl (by decide) (fun ac w h => ?_) ?_
  ·have e16 : _ = Value.bool true := h.d 16
   have e17 : _ = Value.pointer (some ⟨w0.heap.size, 5, none⟩) := h.d 17
   exact Fg.vx p.Y.v (wants_some (d := 16) rfl rfl (by rw [h.size]; show 16 < 29; decide) e16) (Fg.run_load rfl e17 ((hP.gn h.base).range 5 (feL p.Y) rfl) Tryz.underlying34 rfl info_elem)
  refine Fg.vS rfl (by decide) (fun ac w h => ?_) ?_
  ·have e16 : _ = Value.bool true := h.d 16
   have e3 : _ = Value.pointer (some ⟨w0.heap.size + 1, 0, none⟩) := h.r 3
   exact Fg.vx (Value.pointer (some ⟨w0.heap.size + 1, 10, none⟩)) (wants_some (d := 16) rfl rfl (by rw [h.size]; show 16 < 29; decide) e16) (Fg.run_fieldAddr rfl e3 (fa_point2 _ _ _))
  refine Fg.vS rfl (by decide) (fun ac w h => ?_) ?_
  ·have e16 : _ = Value.bool true := h.d 16
   have e19 : _ = Value.pointer (some ⟨w0.heap.size + 1, 10, none⟩) := h.d 19
   exact Fg.vx q.Z.v (wants_some (d := 16) rfl rfl (by rw [h.size]; show 16 < 29; decide) e16) (Fg.run_load rfl e19 ((hQ.gn h.base).range 10 (feL q.Z) rfl) Tryz.underlying34 rfl info_elem)
  refine Fg.cS rfl (by decide) (fun ac w h => ?_) ?_
  ·have e16 : _ = Value.bool true := h.d 16
   have e18 : _ = p.Y.v := h.d 18
   have e20 : _ = q.Z.v := h.d 20
   refine ⟨wants_some (d := 16) rfl rfl (by rw [h.size]; show 16 < 29; decide) e16, 38, #[p.Y.v, q.Z.v], Fg.run_call rfl rfl (by simp only [List.map_toArray, List.map_cons, List.map_nil, Act.eval, e18, e20]) (Fg.run_enter Tryz.func38 (by kernel_rfl) (by kernel_rfl)), ?_⟩
   exact (t_mul okp.Y okq.Z).mono fun _ _ ⟨he, hg⟩ => ⟨_, he, hg, rfl⟩
  refine Fg.vS rfl (by decide) (fun ac w h => ?_) ?_
  ·have e16 : _ = Value.bool true := h.d 16
   have e3 : _ = Value.pointer (some ⟨w0.heap.size + 1, 0, none⟩) := h.r 3
   exact Fg.vx (Value.pointer (some ⟨w0.heap.size + 1, 5, none⟩)) (wants_some (d := 16) rfl rfl (by rw [h.size]; show 16 < 29; decide) e16) (Fg.run_fieldAddr rfl e3 (fa_point1 _ _ _))
  refine Fg.vS rfl (by decide) (fun ac w h => ?_) ?_
  ·have e16 : _ = Value.bool true := h.d 16
   have e22 : _ = Value.pointer (some ⟨w0.heap.size + 1, 5, none⟩) := h.d 22
   exact Fg.vx q.Y.v (wants_some (d := 16) rfl rfl (by rw [h.size]; show 16 < 29; decide) e16) (Fg.run_load rfl e22 ((hQ.gn h.base).range 5 (feL q.Y) rfl) Tryz.underlying34 rfl info_elem)
  refine Fg.vS rfl (by decide) (fun ac w h => ?_) ?_
  ·have e16 : _ = Value.bool true := h.d 16
   have e2 : _ = Value.pointer (some ⟨w0.heap.size, 0, none⟩) := h.r 2
   exact Fg.vx (Value.pointer (some ⟨w0.heap.size, 10, none⟩)) (wants_some (d := 16) rfl rfl (by rw [h.size]; show 16 < 29; decide) e16) (Fg.run_fieldAddr rfl e2 (fa_point2 _ _ _))
  refine Fg.vS rfl (by decide) (fun ac w h => ?_) ?_
  ·have e16 : _ = Value.bool true := h.d 16
   have e24 : _ = Value.pointer (some ⟨w0.heap.size, 10, none⟩) := h.d 24
   exact Fg.vx p.Z.v (wants_some (d := 16) rfl rfl (by rw [h.size]; show 16 < 29; decide) e16) (Fg.run_load rfl e24 ((hP.gn h.base).range 10 (feL p.Z) rfl) Tryz.underlying34 rfl info_elem)
  refine Fg.cS rfl (by decide) (fun ac w h => ?_) ?_
  ·have e16 : _ = Value.bool true := h.d 16
   have e23 : _ = q.Y.v := h.d 23
   have e25 : _ = p.Z.v := h.d 25
   refine ⟨wants_some (d := 16) rfl rfl (by rw [h.size]; show 16 < 29; decide) e16, 38, #[q.Y.v, p.Z.v], Fg.run_call rfl rfl (by simp only [List.map_toArray, List.map_cons, List.map_nil, Act.eval, e23, e25]) (Fg.run_enter Tryz.func38 (by kernel_rfl) (by kernel_rfl)), ?_⟩
   exact (t_mul okq.Y okp.Z).mono fun _ _ ⟨he, hg⟩ => ⟨_, he, hg, rfl⟩
  refine Fg.cS rfl (by decide) (fun ac w h => ?_) ?_
  ·have e16 : _ = Value.bool true := h.d 16
   have e21 : _ = (Fe.mulF p.Y q.Z).v := h.d 21
   have e26 : _ = (Fe.mulF q.Y p.Z).v := h.d 26
   refine ⟨wants_some (d := 16) rfl rfl (by rw [h.size]; show 16 < 29; decide) e16, 37, #[(Fe.mulF p.Y q.Z).v, (Fe.mulF q.Y p.Z).v], Fg.run_call rfl rfl (by simp only [List.map_toArray, List.map_cons, List.map_nil, Act.eval, e21, e26]) (Fg.run_enter Tryz.func37 (by kernel_rfl) (by kernel_rfl)), ?_⟩
   exact (t_same (Fe.mul_right _ _).ok (Fe.mul_right _ _).ok h2).mono fun _ _ ⟨he, hg⟩ => ⟨_, he, hg, rfl⟩
  refine Fg.vS rfl (by decide) (fun ac w h => ?_) ?_
  ·have e16 : _ = Value.bool true := h.d 16
   have e27 : _ = Value.bool true := h.d 27
   refine ⟨wants_none rfl, Value.bool true, w, ?_, gb_refl _ _, rfl⟩
   clear h
   simp only [execOp, Act.eval, e16, e27]
   go_simp
  refine Fg.vS rfl (by decide) (fun ac w h => ?_) ?_
  ·have e28 : _ = Value.bool true := h.d 28
   exact Fg.vn (Value.bool true) (Fg.run_assign rfl e28)
  trivial
 ·intro qa V1 g1 hsz hdf hrest hslots hpt
  obtain ⟨⟨u5, hs5⟩, ⟨u6, hs6⟩, ⟨u7, hs7⟩, ⟨u8, hs8⟩, ⟨u9, hs9⟩, ⟨u10, hs10⟩, ⟨u11, hs11⟩, ⟨u12, hs12⟩, ⟨u13, hs13⟩, ⟨u14, hs14⟩, ⟨u15, hs15⟩, ⟨u16, hs16⟩, ⟨u17, hs17⟩, ⟨u18, hs18⟩, ⟨u19, hs19⟩, ⟨u20, hs20⟩, ⟨u21, hs21⟩, ⟨u22, hs22⟩, ⟨u23, hs23⟩, ⟨u24, hs24⟩, ⟨u25, hs25⟩, ⟨u26, hs26⟩, ⟨u27, hs27⟩, ⟨u28, hs28⟩, _⟩ := Fg.slotvs qa [5, 6, 7, 8, 9, 10, 11, 12, 13, 14, 15, 16, 17, 18, 19, 20, 21, 22, 23, 24, 25, 26, 27, 28]
  obtain rfl := Fg.frame_by [4, 5, 6, 7, 8, 9, 10, 11, 12, 13, 14, 15, 16, 17, 18, 19, 20, 21, 22, 23, 24, 25, 26, 27, 28] (vs := [p.v, q.v, Value.pointer (some ⟨w0.heap.size, 0, none⟩), Value.pointer (some ⟨w0.heap.size + 1, 0, none⟩), Value.bool true, u5, u6, u7, u8, u9, u10, u11, u12, u13, u14, u15, u16, u17, u18, u19, u20, u21, u22, u23, u24, u25, u26, u27, u28]) hsz hrest (by kernel_rfl) rfl rfl ⟨(show qa.tmps.getD 4 undef = Value.bool true from hslots 4 (by kernel_rfl)), hs5, hs6, hs7, hs8, hs9, hs10, hs11, hs12, hs13, hs14, hs15, hs16, hs17, hs18, hs19, hs20, hs21, hs22, hs23, hs24, hs25, hs26, hs27, hs28, trivial⟩ hdf
  clear hsz hdf hrest hslots hpt hs5 hs6 hs7 hs8 hs9 hs10 hs11 hs12 hs13 hs14 hs15 hs16 hs17 hs18 hs19 hs20 hs21 hs22 hs23 hs24 hs25 hs26 hs27 hs28
  replace hP := hP.gn g1
  replace hQ := hQ.gn g1
  replace G := gb_trans G g1
  clear g1
  go_wp2_with fail
  go_ret
  exact ⟨rfl, G⟩
set_option maxRecDepth 100000 in
set_option maxHeartbeats 3200000 in
theorem same_tf (p q : Pt) (w0 : World) (okp : p.Ok) (okq : q.Ok) (h1 : sx p q = true) (h2 : sy p q = false) :
  Calls Tryz.prog 20 #[p.v, q.v] w0 fun e w' => e = .returned (.bool false) ∧ w0.grownBy w' none := by
 show Calls Tryz.prog 20 #[.agg (ptL p).toArray, .agg (ptL q).toArray] w0 _
 go_enter Tryz.func20, Tryz.ntmps20
 go_upto_region 1 with (fail)
 have G : w0.grownBy ((w0.alloc (.cells (ptL p).toArray 36)).alloc (.cells (ptL q).toArray 36)) none := gb_alloc (gb_alloc (gb_refl _ _) _) _
 have hP : Blk ((w0.alloc (.cells (ptL p).toArray 36)).alloc (.cells (ptL q).toArray 36)) (w0.heap.size) 36 (ptL p) := (Blk.new w0 (ptL p) _).alloc _
 have hQ : Blk ((w0.alloc (.cells (ptL p).toArray 36)).alloc (.cells (ptL q).toArray 36)) (w0.heap.size + 1) 36 (ptL q) := Blk.newAt (w0.alloc _) (ptL q) _ (by simp)
 revert G hP hQ
 generalize (w0.alloc (.cells (ptL p).toArray 36)).alloc (.cells (ptL q).toArray 36) = W0
 intro G hP hQ
 have Gs := G.size
 have Gs0 := G.size
 have l1hP := hP.lt
 have l1hQ := hQ.lt
 refine Fg.rT [] [.any, .any, .any, .any, .val (Value.bool false), .val (Value.pointer (some ⟨w0.heap.size, 0, none⟩)), .val (p.X.v), .val (Value.pointer (some ⟨w0.heap.size + 1, 10, none⟩)), .val (q.Z.v), .val ((Fe.mulF p.X q.Z).v), .val (Value.pointer (some ⟨w0.heap.size + 1, 0, none⟩)), .val (q.X.v), .val (Value.pointer (some ⟨w0.heap.size, 10, none⟩)), .val (p.Z.v), .val ((Fe.mulF q.X p.Z).v), .val (Value.bool true), .val (Value.bool true), .val (Value.pointer (some ⟨w0.heap.size, 5, none⟩)), .val (p.Y.v), .val (Value.pointer (some ⟨w0.heap.size + 1, 10, none⟩)), .val (q.Z.v), .val ((Fe.mulF p.Y q.Z).v), .val (Value.pointer (some ⟨w0.heap.size + 1, 5, none⟩)), .val (q.Y.v), .val (Value.pointer (some ⟨w0.heap.size, 10, none⟩)), .val (p.Z.v), .val ((Fe.mulF q.Y p.Z).v), .val (Value.bool false), .val (Value.bool false)] 25 ?_ ?_
 ·refine Fg.vS rfl (by decide) (fun ac w h => ?_) ?_
  ·have e2 : _ = Value.pointer (some ⟨w0.heap.size, 0, none⟩) := h.r 2
   exact Fg.vn (Value.pointer (some ⟨w0.heap.size, 0, none⟩)) (Fg.run_fieldAddr rfl e2 (fa_point0 _ _ _))
  refine Fg.vS rfl (by decide) (fun ac w h => ?_) ?_
  ·have e5 : _ = Value.pointer (some ⟨w0.heap.size, 0, none⟩) := h.d 5
   exact Fg.vn p.X.v (Fg.run_load rfl e5 ((hP.gn h.base).range 0 (feL p.X) rfl) Tryz.underlying34 rfl info_elem)
  refine Fg.vS rfl (by decide) (fun ac w h => ?_) ?_
  ·have e3 : _ = Value.pointer (some ⟨w0.heap.size + 1, 0, none⟩) := h.r 3
   exact Fg.vn (Value.pointer (some ⟨w0.heap.size + 1, 10, none⟩)) (Fg.run_fieldAddr rfl e3 (fa_point2 _ _ _))
  refine Fg.vS rfl (by decide) (fun ac w h => ?_) ?_
  ·have e7 : _ = Value.pointer (some ⟨w0.heap.size + 1, 10, none⟩) := h.d 7
   exact Fg.vn q.Z.v (Fg.run_load rfl e7 ((hQ.gn h.base).range 10 (feL q.Z) rfl) Tryz.underlying34 rfl info_elem)
  refine Fg.cS rfl (by decide) (fun ac w h => ?_) ?_
  ·have e6 : _ = p.X.v := h.d 6
   have e8 : _ = q.Z.v := h.d 8
   refine ⟨wants_none rfl, 38, #[p.X.v, q.Z.v], Fg.run_call rfl rfl (by simp only [List.map_toArray, List.map_cons, List.map_nil, Act.eval, e6, e8]) (Fg.run_enter Tryz.func38 (by kernel_rfl) (by kernel_rfl)), ?_⟩
   exact (t_mul okp.X okq.Z).mono fun _ _ ⟨he, hg⟩ => ⟨_, he, hg, rfl⟩
  refine Fg.vS rfl (by decide) (fun ac w h => ?_) ?_
  ·have e3 : _ = Value.pointer (some ⟨w0.heap.size + 1, 0, none⟩) := h.r 3
   exact Fg.vn (Value.pointer (some ⟨w0.heap.size + 1, 0, none⟩)) (Fg.run_fieldAddr rfl e3 (fa_point0 _ _ _))
  refine Fg.vS rfl (by decide) (fun ac w h => ?_) ?_
  ·have e10 : _ = Value.pointer (some ⟨w0.heap.size + 1, 0, none⟩) := h.d 10
   exact Fg.vn q.X.v (Fg.run_load rfl e10 ((hQ.gn h.base).range 0 (feL q.X) rfl) Tryz.underlying34 rfl info_elem)
  refine Fg.vS rfl (by decide) (fun ac w h => ?_) ?_
  ·have e2 : _ = Value.pointer (some ⟨w0.heap.size, 0, none⟩) := h.r 2
   exact Fg.vn (Value.pointer (some ⟨w0.heap.size, 10, none⟩)) (Fg.run_fieldAddr rfl e2 (fa_point2 _ _ _))
  refine Fg.vS rfl (by decide) (fun ac w h => ?_) ?_
  ·have e12 : _ = Value.pointer (some ⟨w0.heap.size, 10, none⟩) := h.d 12
   exact Fg.vn p.Z.v (Fg.run_load rfl e12 ((hP.gn h.base).range 10 (feL p.Z) rfl) Tryz.underlying34 rfl info_elem)
  refine Fg.cS rfl (by decide) (fun ac w h => ?_) ?_
  ·have e11 : _ = q.X.v := h.d 11
   have e13 : _ = p.Z.v := h.d 13
   refine ⟨wants_none rfl, 38, #[q.X.v, p.Z.v], Fg.run_call rfl rfl (by simp only [List.map_toArray, List.map_cons, List.map_nil, Act.eval, e11, e13]) (Fg.run_enter Tryz.func38 (by kernel_rfl) (by kernel_rfl)), ?_⟩
   exact (t_mul okq.X okp.Z).mono fun _ _ ⟨he, hg⟩ => ⟨_, he, hg, rfl⟩
  refine Fg.cS rfl (by decide) (fun ac w h => ?_) ?_
  ·have e9 : _ = (Fe.mulF p.X q.Z).v := h.d 9
   have e14 : _ = (Fe.mulF q.X p.Z).v := h.d 14
   refine ⟨wants_none rfl, 37, #[(Fe.mulF p.X q.Z).v, (Fe.mulF q.X p.Z).v], Fg.run_call rfl rfl (by simp only [List.map_toArray, List.map_cons, List.map_nil, Act.eval, e9, e14]) (Fg.run_enter Tryz.func37 (by kernel_rfl) (by kernel_rfl)), ?_⟩
   exact (t_same (Fe.mul_right _ _).ok (Fe.mul_right _ _).ok h1).mono fun _ _ ⟨he, hg⟩ => ⟨_, he, hg, rfl⟩
  refine Fg.vS rfl (by decide) (fun ac w h => ?_) ?_
  ·have e15 : _ = Value.bool true := h.d 15
   exact Fg.vn (Value.bool true) (Fg.run_move rfl e15)
  refine Fg.vS rfl (by decide) (fun ac w h => ?_) ?_
  ·have e16 : _ = Value.bool true := h.d 16
   have e2 : _ = Value.pointer (some ⟨w0.heap.size, 0, none⟩) := h.r 2
   exact Fg.vx (Value.pointer (some ⟨w0.heap.size, 5, none⟩)) (wants_some (d := 16) rfl rfl (by rw [h.size]; show 16 < 29; decide) e16) (Fg.run_fieldAddr rfl e2 (fa_point1 _ _ _))
  refine Fg.vS rfl (by decide) (fun ac w h => ?_) ?_
  ·have e16 : _ = Value.bool true := h.d 16
   have e17 : _ = Value.pointer (some ⟨w0.heap.size, 5, none⟩) := h.d 17
   exact Fg.vx p.Y.v (wants_some (d := 16) rfl rfl (by rw [h.size]; show 16 < 29; decide) e16) (Fg.run_load rfl e17 ((hP.gn h.base).range 5 (feL p.Y) rfl) Tryz.underlying34 rfl info_elem)
  refine Fg.vS rfl (by decide) (fun ac w h => ?_) ?_
  ·have e16 : _ = Value.bool true := h.d 16
   have e3 : _ = Value.pointer (some ⟨w0.heap.size + 1, 0, none⟩) := h.r 3
   exact Fg.vx (Value.pointer (some ⟨w0.heap.size + 1, 10, none⟩)) (wants_some (d := 16) rfl rfl (by rw [h.size]; show 16 < 29; decide) e16) (Fg.run_fieldAddr rfl e3 (fa_point2 _ _ _))
  refine Fg.vS rfl (by decide) (fun ac w h => ?_) ?_
  ·have e16 : _ = Value.bool true := h.d 16
   have e19 : _ = Value.pointer (some ⟨w0.heap.size + 1, 10, none⟩) := h.d 19
   exact Fg.vx q.Z.v (wants_some (d := 16) rfl rfl (by rw [h.size]; show 16 < 29; decide) e16) (Fg.run_load rfl e19 ((hQ.gn h.base).range 10 (feL q.Z) rfl) Tryz.underlying34 rfl info_elem)
  refine Fg.cS rfl (by decide) (fun ac w h => ?_) ?_
  ·have e16 : _ = Value.bool true := h.d 16
   have e18 : _ = p.Y.v := h.d 18
   have e20 : _ = q.Z.v := h.d 20
   refine ⟨wants_some (d := 16) rfl rfl (by rw [h.size]; show 16 < 29; decide) e16, 38, #[p.Y.v, q.Z.v], Fg.run_call rfl rfl (by simp only [List.map_toArray, List.map_cons, List.map_nil, Act.eval, e18, e20]) (Fg.run_enter Tryz.func38 (by kernel_rfl) (by kernel_rfl)), ?_⟩
   exact (t_mul okp.Y okq.Z).mono fun _ _ ⟨he, hg⟩ => ⟨_, he, hg, rfl⟩
  refine Fg.vS rfl (by decide) (fun ac w h => ?_) ?_
  ·have e16 : _ = Value.bool true := h.d 16
   have e3 : _ = Value.pointer (some ⟨w0.heap.size + 1, 0, none⟩) := h.r 3
   exact Fg.vx (Value.pointer (some ⟨w0.heap.size + 1, 5, none⟩)) (wants_some (d := 16) rfl rfl (by rw [h.size]; show 16 < 29; decide) e16) (Fg.run_fieldAddr rfl e3 (fa_point1 _ _ _))
  refine Fg.vS rfl (by decide) (fun ac w h => ?_) ?_
  ·have e16 : _ = Value.bool true := h.d 16
   have e22 : _ = Value.pointer (some ⟨w0.heap.size + 1, 5, none⟩) := h.d 22
   exact Fg.vx q.Y.v (wants_some (d := 16) rfl rfl (by rw [h.size]; show 16 < 29; decide) e16) (Fg.run_load rfl e22 ((hQ.gn h.base).range 5 (feL q.Y) rfl) Tryz.underlying34 rfl info_elem)
  refine Fg.vS rfl (by decide) (fun ac w h => ?_) ?_
  ·have e16 : _ = Value.bool true := h.d 16
   have e2 : _ = Value.pointer (some ⟨w0.heap.size, 0, none⟩) := h.r 2
   exact Fg.vx (Value.pointer (some ⟨w0.heap.size, 10, none⟩)) (wants_some (d := 16) rfl rfl (by rw [h.size]; show 16 < 29; decide) e16) (Fg.run_fieldAddr rfl e2 (fa_point2 _ _ _))
  refine Fg.vS rfl (by decide) (fun ac w h => ?_) ?_
  ·have e16 : _ = Value.bool true := h.d 16
   have e24 : _ = Value.pointer (some ⟨w0.heap.size, 10, none⟩) := h.d 24
   exact Fg.vx p.Z.v (wants_some (d := 16) rfl rfl (by rw [h.size]; show 16 < 29; decide) e16) (Fg.run_load rfl e24 ((hP.gn h.base).range 10 (feL p.Z) rfl) Tryz.underlying34 rfl info_elem)
  refine Fg.cS rfl (by decide) (fun ac w h => ?_) ?_
  ·have e16 : _ = Value.bool true := h.d 16
   have e23 : _ = q.Y.v := h.d 23
   have e25 : _ = p.Z.v := h.d 25
   refine ⟨wants_some (d := 16) rfl rfl (by rw [h.size]; show 16 < 29; decide) e16, 38, #[q.Y.v, p.Z.v], Fg.run_call rfl rfl (by simp only [List.map_toArray, List.map_cons, List.map_nil, Act.eval, e23, e25]) (Fg.run_enter Tryz.func38 (by kernel_rfl) (by kernel_rfl)), ?_⟩
   exact (t_mul okq.Y okp.Z).mono fun _ _ ⟨he, hg⟩ => ⟨_, he, hg, rfl⟩
  refine Fg.cS rfl (by decide) (fun ac w h => ?_) ?_
  ·have e16 : _ = Value.bool true := h.d 16
   have e21 : _ = (Fe.mulF p.Y q.Z).v := h.d 21
   have e26 : _ = (Fe.mulF q.Y p.Z).v := h.d 26
   refine ⟨wants_some (d := 16) rfl rfl (by rw [h.size]; show 16 < 29; decide) e16, 37, #[(Fe.mulF p.Y q.Z).v, (Fe.mulF q.Y p.Z).v], Fg.run_call rfl rfl (by simp only [List.map_toArray, List.map_cons, List.map_nil, Act.eval, e21, e26]) (Fg.run_enter Tryz.func37 (by kernel_rfl) (by kernel_rfl)), ?_⟩
   exact (t_same (Fe.mul_right _ _).ok (Fe.mul_right _ _).ok h2).mono fun _ _ ⟨he, hg⟩ => ⟨_, he, hg, rfl⟩
  refine Fg.vS rfl (by decide) (fun ac w h => ?_) ?_
  ·have e16 : _ = Value.bool true := h.d 16
   have e27 : _ = Value.bool false := h.d 27
   refine ⟨wants_none rfl, Value.bool false, w, ?_, gb_refl _ _, rfl⟩
   clear h
   simp only [execOp, Act.eval, e16, e27]
   go_simp
  refine Fg.vS rfl (by decide) (fun ac w h => ?_) ?_
  ·have e28 : _ = Value.bool false := h.d 28
   exact Fg.vn (Value.bool false) (Fg.run_assign rfl e28)
  trivial
 ·intro qa V1 g1 hsz hdf hrest hslots hpt
  obtain ⟨⟨u5, hs5⟩, ⟨u6, hs6⟩, ⟨u7, hs7⟩, ⟨u8, hs8⟩, ⟨u9, hs9⟩, ⟨u10, hs10⟩, ⟨u11, hs11⟩, ⟨u12, hs12⟩, ⟨u13, hs13⟩, ⟨u14, hs14⟩, ⟨u15, hs15⟩, ⟨u16, hs16⟩, ⟨u17, hs17⟩, ⟨u18, hs18⟩, ⟨u19, hs19⟩, ⟨u20, hs20⟩, ⟨u21, hs21⟩, ⟨u22, hs22⟩, ⟨u23, hs23⟩, ⟨u24, hs24⟩, ⟨u25, hs25⟩, ⟨u26, hs26⟩, ⟨u27, hs27⟩, ⟨u28, hs28⟩, _⟩ := Fg.slotvs qa [5, 6, 7, 8, 9, 10, 11, 12, 13, 14, 15, 16, 17, 18, 19, 20, 21, 22, 23, 24, 25, 26, 27, 28]
  obtain rfl := Fg.frame_by [4, 5, 6, 7, 8, 9, 10, 11, 12, 13, 14, 15, 16, 17, 18, 19, 20, 21, 22, 23, 24, 25, 26, 27, 28] (vs := [p.v, q.v, Value.pointer (some ⟨w0.heap.size, 0, none⟩), Value.pointer (some ⟨w0.heap.size + 1, 0, none⟩), Value.bool false, u5, u6, u7, u8, u9, u10, u11, u12, u13, u14, u15, u16, u17, u18, u19, u20, u21, u22, u23, u24, u25, u26, u27, u28]) hsz hrest (by kernel_rfl) rfl rfl ⟨(show qa.tmps.getD 4 undef = Value.bool false from hslots 4 (by kernel_rfl)), hs5, hs6, hs7, hs8, hs9, hs10, hs11, hs12, hs13, hs14, hs15, hs16, hs17, hs18, hs19, hs20, hs21, hs22, hs23, hs24, hs25, hs26, hs27, hs28, trivial⟩ hdf
  clear hsz hdf hrest hslots hpt hs5 hs6 hs7 hs8 hs9 hs10 hs11 hs12 hs13 hs14 hs15 hs16 hs17 hs18 hs19 hs20 hs21 hs22 hs23 hs24 hs25 hs26 hs27 hs28
  replace hP := hP.gn g1
  replace hQ := hQ.gn g1
  replace G := gb_trans G g1
  clear g1
  go_wp2_with fail
  go_ret
  exact ⟨rfl, G⟩
set_option maxRecDepth 100000 in
set_option maxHeartbeats 3200000 in
theorem same_f (p q : Pt) (w0 : World) (okp : p.Ok) (okq : q.Ok) (h1 : sx p q = false) :
  Calls Tryz.prog 20 #[p.v, q.v] w0 fun e w' => e = .returned (.bool false) ∧ w0.grownBy w' none := by
 show Calls Tryz.prog 20 #[.agg (ptL p).toArray, .agg (ptL q).toArray] w0 _
 go_enter Tryz.func20, Tryz.ntmps20
 go_upto_region 1 with (fail)
 have G : w0.grownBy ((w0.alloc (.cells (ptL p).toArray 36)).alloc (.cells (ptL q).toArray 36)) none := gb_alloc (gb_alloc (gb_refl _ _) _) _
 have hP : Blk ((w0.alloc (.cells (ptL p).toArray 36)).alloc (.cells (ptL q).toArray 36)) (w0.heap.size) 36 (ptL p) := (Blk.new w0 (ptL p) _).alloc _
 have hQ : Blk ((w0.alloc (.cells (ptL p).toArray 36)).alloc (.cells (ptL q).toArray 36)) (w0.heap.size + 1) 36 (ptL q) := Blk.newAt (w0.alloc _) (ptL q) _ (by simp)
 revert G hP hQ
 generalize (w0.alloc (.cells (ptL p).toArray 36)).alloc (.cells (ptL q).toArray 36) = W0
 intro G hP hQ
 have Gs := G.size
 have Gs0 := G.size
 have l1hP := hP.lt
 have l1hQ := hQ.lt
 refine Fg.rT [] [.any, .any, .any, .any, .val (Value.bool false), .val (Value.pointer (some ⟨w0.heap.size, 0, none⟩)), .val (p.X.v), .val (Value.pointer (some ⟨w0.heap.size + 1, 10, none⟩)), .val (q.Z.v), .val ((Fe.mulF p.X q.Z).v), .val (Value.pointer (some ⟨w0.heap.size + 1, 0, none⟩)), .val (q.X.v), .val (Value.pointer (some ⟨w0.heap.size, 10, none⟩)), .val (p.Z.v), .val ((Fe.mulF q.X p.Z).v), .val (Value.bool false), .val (Value.bool false), .val undef, .val undef, .val undef, .val undef, .val undef, .val undef, .val undef, .val undef, .val undef, .val undef, .val undef, .val (Value.bool false)] 25 ?_ ?_
 ·refine Fg.vS rfl (by decide) (fun ac w h => ?_) ?_
  ·have e2 : _ = Value.pointer (some ⟨w0.heap.size, 0, none⟩) := h.r 2
   exact Fg.vn (Value.pointer (some ⟨w0.heap.size, 0, none⟩)) (Fg.run_fieldAddr rfl e2 (fa_point0 _ _ _))
  refine Fg.vS rfl (by decide) (fun ac w h => ?_) ?_
  ·have e5 : _ = Value.pointer (some ⟨w0.heap.size, 0, none⟩) := h.d 5
   exact Fg.vn p.X.v (Fg.run_load rfl e5 ((hP.gn h.base).range 0 (feL p.X) rfl) Tryz.underlying34 rfl info_elem)
  refine Fg.vS rfl (by decide) (fun ac w h => ?_) ?_
  ·have e3 : _ = Value.pointer (some ⟨w0.heap.size + 1, 0, none⟩) := h.r 3
   exact Fg.vn (Value.pointer (some ⟨w0.heap.size + 1, 10, none⟩)) (Fg.run_fieldAddr rfl e3 (fa_point2 _ _ _))
  refine Fg.vS rfl (by decide) (fun ac w h => ?_) ?_
  ·have e7 : _ = Value.pointer (some ⟨w0.heap.size + 1, 10, none⟩) := h.d 7
   exact Fg.vn q.Z.v (Fg.run_load rfl e7 ((hQ.gn h.base).range 10 (feL q.Z) rfl) Tryz.underlying34 rfl info_elem)
  refine Fg.cS rfl (by decide) (fun ac w h => ?_) ?_
  ·have e6 : _ = p.X.v := h.d 6
   have e8 : _ = q.Z.v := h.d 8
   refine ⟨wants_none rfl, 38, #[p.X.v, q.Z.v], Fg.run_call rfl rfl (by simp only [List.map_toArray, List.map_cons, List.map_nil, Act.eval, e6, e8]) (Fg.run_enter Tryz.func38 (by kernel_rfl) (by kernel_rfl)), ?_⟩
   exact (t_mul okp.X okq.Z).mono fun _ _ ⟨he, hg⟩ => ⟨_, he, hg, rfl⟩
  refine Fg.vS rfl (by decide) (fun ac w h => ?_) ?_
  ·have e3 : _ = Value.pointer (some ⟨w0.heap.size + 1, 0, none⟩) := h.r 3
   exact Fg.vn (Value.pointer (some ⟨w0.heap.size + 1, 0, none⟩)) (Fg.run_fieldAddr rfl e3 (fa_point0 _ _ _))
  refine Fg.vS rfl (by decide) (fun ac w h => ?_) ?_
  ·have e10 : _ = Value.pointer (some ⟨w0.heap.size + 1, 0, none⟩) := h.d 10
   exact Fg.vn q.X.v (Fg.run_load rfl e10 ((hQ.gn h.base).range 0 (feL q.X) rfl) Tryz.underlying34 rfl info_elem)
  refine Fg.vS rfl (by decide) (fun ac w h => ?_) ?_
  ·have e2 : _ = Value.pointer (some ⟨w0.heap.size, 0, none⟩) := h.r 2
   exact Fg.vn (Value.pointer (some ⟨w0.heap.size, 10, none⟩)) (Fg.run_fieldAddr rfl e2 (fa_point2 _ _ _))
  refine Fg.vS rfl (by decide) (fun ac w h => ?_) ?_
  ·have e12 : _ = Value.pointer (some ⟨w0.heap.size, 10, none⟩) := h.d 12
   exact Fg.vn p.Z.v (Fg.run_load rfl e12 ((hP.gn h.base).range 10 (feL p.Z) rfl) Tryz.underlying34 rfl info_elem)
  refine Fg.cS rfl (by decide) (fun ac w h => ?_) ?_
  ·have e11 : _ = q.X.v := h.d 11
   have e13 : _ = p.Z.v := h.d 13
   refine ⟨wants_none rfl, 38, #[q.X.v, p.Z.v], Fg.run_call rfl rfl (by simp only [List.map_toArray, List.map_cons, List.map_nil, Act.eval, e11, e13]) (Fg.run_enter Tryz.func38 (by kernel_rfl) (by kernel_rfl)), ?_⟩
   exact (t_mul okq.X okp.Z).mono fun _ _ ⟨he, hg⟩ => ⟨_, he, hg, rfl⟩
  refine Fg.cS rfl (by decide) (fun ac w h => ?_) ?_
  ·have e9 : _ = (Fe.mulF p.X q.Z).v := h.d 9
   have e14 : _ = (Fe.mulF q.X p.Z).v := h.d 14
   refine ⟨wants_none rfl, 37, #[(Fe.mulF p.X q.Z).v, (Fe.mulF q.X p.Z).v], Fg.run_call rfl rfl (by simp only [List.map_toArray, List.map_cons, List.map_nil, Act.eval, e9, e14]) (Fg.run_enter Tryz.func37 (by kernel_rfl) (by kernel_rfl)), ?_⟩
   exact (t_same (Fe.mul_right _ _).ok (Fe.mul_right _ _).ok h1).mono fun _ _ ⟨he, hg⟩ => ⟨_, he, hg, rfl⟩
  refine Fg.vS rfl (by decide) (fun ac w h => ?_) ?_
  ·have e15 : _ = Value.bool false := h.d 15
   exact Fg.vn (Value.bool false) (Fg.run_move rfl e15)
  refine ⟨⟨⟨_, rfl⟩, Fg.skippedP rfl (by decide) (fun _ => rfl) fun ac w h => ?_⟩, ?_⟩
  ·have e16 : _ = Value.bool false := h.d 16
   exact not_wants (d := 16) rfl rfl (by rw [h.size]; show 16 < 29; decide) e16 (by decide)
  refine ⟨⟨⟨_, rfl⟩, Fg.skippedP rfl (by decide) (fun _ => rfl) fun ac w h => ?_⟩, ?_⟩
  ·have e16 : _ = Value.bool false := h.d 16
   exact not_wants (d := 16) rfl rfl (by rw [h.size]; show 16 < 29; decide) e16 (by decide)
  refine ⟨⟨⟨_, rfl⟩, Fg.skippedP rfl (by decide) (fun _ => rfl) fun ac w h => ?_⟩, ?_⟩
  ·have e16 : _ = Value.bool false := h.d 16
   exact not_wants (d := 16) rfl rfl (by rw [h.size]; show 16 < 29; decide) e16 (by decide)
  refine ⟨⟨⟨_, rfl⟩, Fg.skippedP rfl (by decide) (fun _ => rfl) fun ac w h => ?_⟩, ?_⟩
  ·have e16 : _ = Value.bool false := h.d 16
   exact not_wants (d := 16) rfl rfl (by rw [h.size]; show 16 < 29; decide) e16 (by decide)
  refine ⟨⟨⟨_, rfl⟩, Fg.skippedP rfl (by decide) (fun _ => rfl) fun ac w h => ?_⟩, ?_⟩
  ·have e16 : _ = Value.bool false := h.d 16
   exact not_wants (d := 16) rfl rfl (by rw [h.size]; show 16 < 29; decide) e16 (by decide)
  refine ⟨⟨⟨_, rfl⟩, Fg.skippedP rfl (by decide) (fun _ => rfl) fun ac w h => ?_⟩, ?_⟩
  ·have e16 : _ = Value.bool false := h.d 16
   exact not_wants (d := 16) rfl rfl (by rw [h.size]; show 16 < 29; decide) e16 (by decide)
  refine ⟨⟨⟨_, rfl⟩, Fg.skippedP rfl (by decide) (fun _ => rfl) fun ac w h => ?_⟩, ?_⟩
  ·have e16 : _ = Value.bool false := h.d 16
   exact not_wants (d := 16) rfl rfl (by rw [h.size]; show 16 < 29; decide) e16 (by decide)
  refine ⟨⟨⟨_, rfl⟩, Fg.skippedP rfl (by decide) (fun _ => rfl) fun ac w h => ?_⟩, ?_⟩
  ·have e16 : _ = Value.bool false := h.d 16
   exact not_wants (d := 16) rfl rfl (by rw [h.size]; show 16 < 29; decide) e16 (by decide)
  refine ⟨⟨⟨_, rfl⟩, Fg.skippedP rfl (by decide) (fun _ => rfl) fun ac w h => ?_⟩, ?_⟩
  ·have e16 : _ = Value.bool false := h.d 16
   exact not_wants (d := 16) rfl rfl (by rw [h.size]; show 16 < 29; decide) e16 (by decide)
  refine ⟨⟨⟨_, rfl⟩, Fg.skippedP rfl (by decide) (fun _ => rfl) fun ac w h => ?_⟩, ?_⟩
  ·have e16 : _ = Value.bool false := h.d 16
   exact not_wants (d := 16) rfl rfl (by rw [h.size]; show 16 < 29; decide) e16 (by decide)
  refine ⟨⟨⟨_, rfl⟩, Fg.skippedP rfl (by decide) (fun _ => rfl) fun ac w h => ?_⟩, ?_⟩
  ·have e16 : _ = Value.bool false := h.d 16
   exact not_wants (d := 16) rfl rfl (by rw [h.size]; show 16 < 29; decide) e16 (by decide)
  refine Fg.vS rfl (by decide) (fun ac w h => ?_) ?_
  ·have e16 : _ = Value.bool false := h.d 16
   refine ⟨wants_none rfl, Value.bool false, w, ?_, gb_refl _ _, rfl⟩
   clear h
   simp only [execOp, Act.eval, e16]
   go_simp
  refine Fg.vS rfl (by decide) (fun ac w h => ?_) ?_
  ·have e28 : _ = Value.bool false := h.d 28
   exact Fg.vn (Value.bool false) (Fg.run_assign rfl e28)
  trivial
 ·intro qa V1 g1 hsz hdf hrest hslots hpt
  obtain ⟨⟨u5, hs5⟩, ⟨u6, hs6⟩, ⟨u7, hs7⟩, ⟨u8, hs8⟩, ⟨u9, hs9⟩, ⟨u10, hs10⟩, ⟨u11, hs11⟩, ⟨u12, hs12⟩, ⟨u13, hs13⟩, ⟨u14, hs14⟩, ⟨u15, hs15⟩, ⟨u16, hs16⟩, ⟨u17, hs17⟩, ⟨u18, hs18⟩, ⟨u19, hs19⟩, ⟨u20, hs20⟩, ⟨u21, hs21⟩, ⟨u22, hs22⟩, ⟨u23, hs23⟩, ⟨u24, hs24⟩, ⟨u25, hs25⟩, ⟨u26, hs26⟩, ⟨u27, hs27⟩, ⟨u28, hs28⟩, _⟩ := Fg.slotvs qa [5, 6, 7, 8, 9, 10, 11, 12, 13, 14, 15, 16, 17, 18, 19, 20, 21, 22, 23, 24, 25, 26, 27, 28]
  obtain rfl := Fg.frame_by [4, 5, 6, 7, 8, 9, 10, 11, 12, 13, 14, 15, 16, 17, 18, 19, 20, 21, 22, 23, 24, 25, 26, 27, 28] (vs := [p.v, q.v, Value.pointer (some ⟨w0.heap.size, 0, none⟩), Value.pointer (some ⟨w0.heap.size + 1, 0, none⟩), Value.bool false, u5, u6, u7, u8, u9, u10, u11, u12, u13, u14, u15, u16, u17, u18, u19, u20, u21, u22, u23, u24, u25, u26, u27, u28]) hsz hrest (by kernel_rfl) rfl rfl ⟨(show qa.tmps.getD 4 undef = Value.bool false from hslots 4 (by kernel_rfl)), hs5, hs6, hs7, hs8, hs9, hs10, hs11, hs12, hs13, hs14, hs15, hs16, hs17, hs18, hs19, hs20, hs21, hs22, hs23, hs24, hs25, hs26, hs27, hs28, trivial⟩ hdf
  clear hsz hdf hrest hslots hpt hs5 hs6 hs7 hs8 hs9 hs10 hs11 hs12 hs13 hs14 hs15 hs16 hs17 hs18 hs19 hs20 hs21 hs22 hs23 hs24 hs25 hs26 hs27 hs28
  replace hP := hP.gn g1
  replace hQ := hQ.gn g1
  replace G := gb_trans G g1
  clear g1
  go_wp2_with fail
  go_ret
  exact ⟨rfl, G⟩
theorem edSame (p q : Pt) (w0 : World) (okp : p.Ok) (okq : q.Ok) : Tells 20 #[p.v, q.v] w0 (.bool (sx p q && sy p q)) := by
 cases h1 : sx p q
 ·exact same_f p q w0 okp okq h1
 ·cases h2 : sy p q
  ·exact same_tf p q w0 okp okq h1 h2
  ·exact same_tt p q w0 okp okq h1 h2
theorem same_pr {s t : Pt} {p q : Pr} (h : PtIs s p) (k : PtIs t q) : (sx s t && sy s t) = true ↔ p = q := by
 rw [Bool.and_eq_true]
 unfold sx sy
 rw [decide_eq_true_iff, decide_eq_true_iff]
 exact sameIs h k
end
section
open Go.RowKit Ow Ed
def Fg.It.stands (r : Pr) : It := ⟨fun v _ => ∃ t : Pt, v = t.v ∧ PtIs t r, fun _ _ _ h _ => h⟩
theorem edSameIs {s t : Pt} {p q : Pr} {b : Bool} (w : World) (h : PtIs s p) (k : PtIs t q) (hb : b = true ↔ p = q) : Tells 20 #[s.v, t.v] w (.bool b) := by
 have e : (sx s t && sy s t) = b := Bool.eq_iff_iff.2 ((same_pr h k).trans hb.symm)
 rw [← e]
 exact edSame s t w h.ok k.ok
end
section
open Go.RowKit Ow Go.Shelf Ed
def VerP (l s m : List Nat) : Prop := l.length = 32 ∧ ∃ A R, On A ∧ enc A = numI l ∧ On R ∧ enc R = numI (s.take 32) ∧ num (s.drop 32) < Sc.L ∧
 Ed.add (nmul (num (scB (num (Sha.sum ((s.take 32 ++ l) ++ m))))) (Ed.neg A)) (nmul (num (s.drop 32)) baseR) = R
theorem sright_val (cap B : Nat) (a : Option Addr) (l : List Nat) (w : World) (v : Bool) (hl : l.length = 32) (hP : BytesAt w B a cap l) (hT : OTab w) (h : decide (num l < Sc.L) = v) :
  Calls Tryz.prog 9 #[.slice a 32 cap] w fun e w' => e = .returned (.bool v) ∧ w.grownBy w' none := by
 rw [← h]
 exact sright_any cap B a l w hl hP hT
theorem ver_iff {l s m : List Nat} {A R : Pr} {b : Bool} (hl : l.length = 32) (hA : On A) (eA : enc A = numI l) (hR : On R) (eR : enc R = numI (s.take 32)) (hS : num (s.drop 32) < Sc.L)
  (hb : b = true ↔ Ed.add (nmul (num (scB (num (Sha.sum ((s.take 32 ++ l) ++ m))))) (Ed.neg A)) (nmul (num (s.drop 32)) baseR) = R) : b = true ↔ VerP l s m := by
 rw [hb]
 constructor
 ·exact fun h => ⟨hl, A, R, hA, eA, hR, eR, hS, h⟩
 ·rintro ⟨_, A', R', hA', eA', hR', eR', _, h⟩
  obtain rfl := enc_inj hA' hA (eA'.trans eA.symm)
  obtain rfl := enc_inj hR' hR (eR'.trans eR.symm)
  exact h
theorem bool_of' (c : Prop) : ∃ b : Bool, b = true ↔ c := by
 by_cases h : c
 ·exact ⟨true, by simp [h]⟩
 ·exact ⟨false, by simp [h]⟩
set_option maxRecDepth 100000 in
set_option maxHeartbeats 12800000 in
theorem verify_any (l s : List Nat) (n cap B sc Bs mt ct Bt : Nat) (a sa bt : Option Addr) (pt : List Part) (w0 : World) (HO0 : OTab w0) (HT0 : ETab w0) (HS0 : Tables w0) (hl : l.length = n) (hn : n < 9223372036854775808) (HPB : Hid (BytesAt w0 B a cap l)) (hs : s.length = 64) (HPS : Hid (BytesAt w0 Bs sa sc s)) (hpt : pt.length = mt) (HPt : Hid (PartsAt w0 Bt bt ct pt)) (hct : ct < 9223372036854775808) (hlen : (joined pt).length < 1000000) :
  Calls Tryz.prog 8 #[.slice a n cap, .slice sa 64 sc, .slice bt mt ct] w0 fun e w' => ∃ b : Bool, e = .returned (.bool b) ∧ w0.grownBy w' none ∧ (b = true ↔ VerP l s (joined pt)) := by
 go_enter Tryz.func8, Tryz.ntmps8
 obtain ⟨sF, hF, hF2⟩ := slice_from sa 64 sc 32 (by decide)
 have hF' : ∀ w, (Instr.slice 22 (.slice sa 64 sc) (some (.int .i64 32)) none none).run Tryz.prog w = .ok (.slice sF 32 (sc - 32)) w := hF
 have hsc : 64 ≤ sc := by have := HPS.out.fits; omega
 obtain ⟨sT, hT, hT2⟩ := slice_to sa 64 sc 32 (by omega)
 have hT' : ∀ w, (Instr.slice 22 (.slice sa 64 sc) none (some (.int .i64 32)) none).run Tryz.prog w = .ok (.slice sT 32 sc) w := hT
 have HRF := Lib.hid (And.intro hF' hT'); clear hF hF' hT hT'
 have HSF : Hid (BytesAt w0 Bs sF (sc - 32) (s.drop 32)) := Lib.hid (bytes_drop HPS.out hF2)
 have HST : Hid (BytesAt w0 Bs sT sc (s.take 32)) := Lib.hid (bytes_take HPS.out hT2)
 clear hF2 hT2
 have hsd : (s.drop 32).length = 32 := by rw [List.length_drop, hs]
 have hst : (s.take 32).length = 32 := by rw [List.length_take, hs]; rfl
 have G : w0.grownBy w0 none := gb_refl _ _
 have HT := HT0
 go_upto_region 3 with (fail)
 refine wp_region_lit ?_
 refine Fg.wpl_value (v := .slice sa 64 sc) (w' := w0) rfl (Fg.run_move rfl rfl) ?_
 simp only [Act.put, List.setIfInBounds_toArray, List.set_cons_succ, List.set_cons_zero]
 refine Fg.wpl_value (v := .slice sF 32 (sc - 32)) (w' := w0) rfl (by
  have hrun := HRF.out.1 w0
  simp only [execOp, Act.eval, Option.map_some, Option.map_none]
  go_simp) ?_
 simp only [Act.put, List.setIfInBounds_toArray, List.set_cons_succ, List.set_cons_zero]
 refine Fg.wpl_value (v := .slice sF 32 (sc - 32)) (w' := w0) rfl (Fg.run_assign rfl rfl) ?_
 simp only [Act.put, List.setIfInBounds_toArray, List.set_cons_succ, List.set_cons_zero]
 refine wpList_nil ?_
 go_upto_region 4 with (fail)
 refine wp_region_lit ?_
 refine Fg.wpl_value (v := .slice a n cap) (w' := w0) rfl (Fg.run_move rfl rfl) ?_
 simp only [Act.put, List.setIfInBounds_toArray, List.set_cons_succ, List.set_cons_zero]
 refine Fg.wpl_call rfl (Fg.run_call (vs := #[.slice a n cap]) rfl rfl (by simp only [List.map_toArray, List.map_cons, List.map_nil, Act.eval]; rfl) (Fg.run_enter Tryz.func19 (by kernel_rfl) (by kernel_rfl))) ?_
 refine (po_any B n cap a l w0 HT hl hn (Lib.hid (HPB.out.stay G))).mono ?_
 rintro e A1 ⟨tA, bA, rfl, ga, hyA, hnA⟩
 refine ⟨_, rfl, ?_⟩
 have HYA := Lib.hid (And.intro hyA hnA); clear hyA hnA
 replace G := gb_trans G ga
 replace HT := HT.grown ga
 clear ga
 simp only [Act.put, List.setIfInBounds_toArray, List.set_cons_succ, List.set_cons_zero]
 refine Fg.wpl_value (v := .tuple #[spV tA (.slice a n cap), .bool bA]) (w' := A1) rfl (Fg.run_move rfl rfl) ?_
 simp only [Act.put, List.setIfInBounds_toArray, List.set_cons_succ, List.set_cons_zero]
 refine Fg.wpl_value (v := spV tA (.slice a n cap)) (w' := A1) rfl (Fg.run_extract rfl rfl rfl) ?_
 simp only [Act.put, List.setIfInBounds_toArray, List.set_cons_succ, List.set_cons_zero]
 refine Fg.wpl_value (v := .bool bA) (w' := A1) rfl (Fg.run_extract rfl rfl rfl) ?_
 simp only [Act.put, List.setIfInBounds_toArray, List.set_cons_succ, List.set_cons_zero]
 refine Fg.wpl_value (v := .pointer (some ⟨A1.heap.size, 0, none⟩)) (w' := A1.alloc (.cells [Value.int IntKind.u64 0, Value.int IntKind.u64 0, Value.int IntKind.u64 0, Value.int IntKind.u64 0, Value.int IntKind.u64 0, Value.int IntKind.u64 0, Value.int IntKind.u64 0, Value.int IntKind.u64 0, Value.int IntKind.u64 0, Value.int IntKind.u64 0, Value.int IntKind.u64 0, Value.int IntKind.u64 0, Value.int IntKind.u64 0, Value.int IntKind.u64 0, Value.int IntKind.u64 0, Value.int IntKind.u64 0, Value.int IntKind.u64 0, Value.int IntKind.u64 0, Value.int IntKind.u64 0, Value.int IntKind.u64 0, Value.slice none 0 0].toArray 38)) rfl (by go_simp) ?_
 simp only [Act.put, List.setIfInBounds_toArray, List.set_cons_succ, List.set_cons_zero]
 have hw8 : w0.heap.size ≤ A1.heap.size := G.size
 have hb8 := Blk.new A1 [Value.int IntKind.u64 0, Value.int IntKind.u64 0, Value.int IntKind.u64 0, Value.int IntKind.u64 0, Value.int IntKind.u64 0, Value.int IntKind.u64 0, Value.int IntKind.u64 0, Value.int IntKind.u64 0, Value.int IntKind.u64 0, Value.int IntKind.u64 0, Value.int IntKind.u64 0, Value.int IntKind.u64 0, Value.int IntKind.u64 0, Value.int IntKind.u64 0, Value.int IntKind.u64 0, Value.int IntKind.u64 0, Value.int IntKind.u64 0, Value.int IntKind.u64 0, Value.int IntKind.u64 0, Value.int IntKind.u64 0, Value.slice none 0 0] 38
 have ga8 := gb_alloc (gb_refl A1 none) (.cells [Value.int IntKind.u64 0, Value.int IntKind.u64 0, Value.int IntKind.u64 0, Value.int IntKind.u64 0, Value.int IntKind.u64 0, Value.int IntKind.u64 0, Value.int IntKind.u64 0, Value.int IntKind.u64 0, Value.int IntKind.u64 0, Value.int IntKind.u64 0, Value.int IntKind.u64 0, Value.int IntKind.u64 0, Value.int IntKind.u64 0, Value.int IntKind.u64 0, Value.int IntKind.u64 0, Value.int IntKind.u64 0, Value.int IntKind.u64 0, Value.int IntKind.u64 0, Value.int IntKind.u64 0, Value.int IntKind.u64 0, Value.slice none 0 0].toArray 38)
 replace G := gb_trans G ga8
 replace HT := HT.grown ga8
 clear ga8
 obtain ⟨N8, hN8⟩ : ∃ x, x = A1.heap.size := ⟨_, rfl⟩
 rw [← hN8] at hb8 hw8 ⊢
 revert G HT hb8
 generalize (A1.alloc (.cells [Value.int IntKind.u64 0, Value.int IntKind.u64 0, Value.int IntKind.u64 0, Value.int IntKind.u64 0, Value.int IntKind.u64 0, Value.int IntKind.u64 0, Value.int IntKind.u64 0, Value.int IntKind.u64 0, Value.int IntKind.u64 0, Value.int IntKind.u64 0, Value.int IntKind.u64 0, Value.int IntKind.u64 0, Value.int IntKind.u64 0, Value.int IntKind.u64 0, Value.int IntKind.u64 0, Value.int IntKind.u64 0, Value.int IntKind.u64 0, Value.int IntKind.u64 0, Value.int IntKind.u64 0, Value.int IntKind.u64 0, Value.slice none 0 0].toArray 38)) = A1x
 intro G HT hb8
 clear hN8
 refine Fg.wpl_skip rfl rfl (Fg.run_store (cs := spL tA (.slice a n cap)) rfl rfl rfl (hb8.there 0 21 (by show 0 + 21 ≤ 21; decide)) info_sp (spL_one _ _ _ _)) ?_
 replace hb8 : Blk (A1x.setCells N8 0 (spL tA (.slice a n cap))) N8 38 (spL tA (.slice a n cap)) := hb8.setAll rfl
 replace G := gb_setCells_new (cs := spL tA (.slice a n cap)) G (B := N8) (hw8) 0
 replace HT := HT.keep (gb_setCells (cs := spL tA (.slice a n cap)) (gb_refl _ (some N8)) 0) (HT0.noG (hw8))
 revert hb8 G HT
 generalize A1x.setCells N8 0 (spL tA (.slice a n cap)) = W1
 intro hb8 G HT
 refine Fg.wpl_value (v := .bool bA) (w' := W1) rfl (Fg.run_assign rfl rfl) ?_
 simp only [Act.put, List.setIfInBounds_toArray, List.set_cons_succ, List.set_cons_zero]
 refine wpList_nil ?_
 go_upto_region 5 with (fail)
 refine wp_region_lit ?_
 refine Fg.wpl_value (v := .slice sa 64 sc) (w' := W1) rfl (Fg.run_move rfl rfl) ?_
 simp only [Act.put, List.setIfInBounds_toArray, List.set_cons_succ, List.set_cons_zero]
 refine Fg.wpl_value (v := .slice sT 32 sc) (w' := W1) rfl (by
  have hrun := HRF.out.2 W1
  simp only [execOp, Act.eval, Option.map_some, Option.map_none]
  go_simp) ?_
 simp only [Act.put, List.setIfInBounds_toArray, List.set_cons_succ, List.set_cons_zero]
 have l3hb8 := hb8.lt
 refine Fg.wpl_call rfl (Fg.run_call (vs := #[.slice sT 32 sc]) rfl rfl (by simp only [List.map_toArray, List.map_cons, List.map_nil, Act.eval]; rfl) (Fg.run_enter Tryz.func19 (by kernel_rfl) (by kernel_rfl))) ?_
 refine (po_any Bs 32 sc sT (s.take 32) W1 HT hst (by decide) (Lib.hid (HST.out.stay G))).mono ?_
 rintro e A2 ⟨tR, bR, rfl, ga, hyR, hnR⟩
 refine ⟨_, rfl, ?_⟩
 have HYR := Lib.hid (And.intro hyR hnR); clear hyR hnR
 replace hb8 := hb8.gn ga
 replace G := gb_trans G ga
 replace HT := HT.grown ga
 clear ga
 simp only [Act.put, List.setIfInBounds_toArray, List.set_cons_succ, List.set_cons_zero]
 refine Fg.wpl_value (v := .tuple #[spV tR (.slice sT 32 sc), .bool bR]) (w' := A2) rfl (Fg.run_move rfl rfl) ?_
 simp only [Act.put, List.setIfInBounds_toArray, List.set_cons_succ, List.set_cons_zero]
 refine Fg.wpl_value (v := spV tR (.slice sT 32 sc)) (w' := A2) rfl (Fg.run_extract rfl rfl rfl) ?_
 simp only [Act.put, List.setIfInBounds_toArray, List.set_cons_succ, List.set_cons_zero]
 refine Fg.wpl_value (v := .bool bR) (w' := A2) rfl (Fg.run_extract rfl rfl rfl) ?_
 simp only [Act.put, List.setIfInBounds_toArray, List.set_cons_succ, List.set_cons_zero]
 refine Fg.wpl_value (v := .pointer (some ⟨A2.heap.size, 0, none⟩)) (w' := A2.alloc (.cells [Value.int IntKind.u64 0, Value.int IntKind.u64 0, Value.int IntKind.u64 0, Value.int IntKind.u64 0, Value.int IntKind.u64 0, Value.int IntKind.u64 0, Value.int IntKind.u64 0, Value.int IntKind.u64 0, Value.int IntKind.u64 0, Value.int IntKind.u64 0, Value.int IntKind.u64 0, Value.int IntKind.u64 0, Value.int IntKind.u64 0, Value.int IntKind.u64 0, Value.int IntKind.u64 0, Value.int IntKind.u64 0, Value.int IntKind.u64 0, Value.int IntKind.u64 0, Value.int IntKind.u64 0, Value.int IntKind.u64 0, Value.slice none 0 0].toArray 38)) rfl (by go_simp) ?_
 simp only [Act.put, List.setIfInBounds_toArray, List.set_cons_succ, List.set_cons_zero]
 have hw10 : w0.heap.size ≤ A2.heap.size := G.size
 have hb10 := Blk.new A2 [Value.int IntKind.u64 0, Value.int IntKind.u64 0, Value.int IntKind.u64 0, Value.int IntKind.u64 0, Value.int IntKind.u64 0, Value.int IntKind.u64 0, Value.int IntKind.u64 0, Value.int IntKind.u64 0, Value.int IntKind.u64 0, Value.int IntKind.u64 0, Value.int IntKind.u64 0, Value.int IntKind.u64 0, Value.int IntKind.u64 0, Value.int IntKind.u64 0, Value.int IntKind.u64 0, Value.int IntKind.u64 0, Value.int IntKind.u64 0, Value.int IntKind.u64 0, Value.int IntKind.u64 0, Value.int IntKind.u64 0, Value.slice none 0 0] 38
 have l4hb8 := hb8.lt
 have ga10 := gb_alloc (gb_refl A2 none) (.cells [Value.int IntKind.u64 0, Value.int IntKind.u64 0, Value.int IntKind.u64 0, Value.int IntKind.u64 0, Value.int IntKind.u64 0, Value.int IntKind.u64 0, Value.int IntKind.u64 0, Value.int IntKind.u64 0, Value.int IntKind.u64 0, Value.int IntKind.u64 0, Value.int IntKind.u64 0, Value.int IntKind.u64 0, Value.int IntKind.u64 0, Value.int IntKind.u64 0, Value.int IntKind.u64 0, Value.int IntKind.u64 0, Value.int IntKind.u64 0, Value.int IntKind.u64 0, Value.int IntKind.u64 0, Value.int IntKind.u64 0, Value.slice none 0 0].toArray 38)
 replace hb8 := hb8.gn ga10
 replace G := gb_trans G ga10
 replace HT := HT.grown ga10
 clear ga10
 obtain ⟨N10, hN10⟩ : ∃ x, x = A2.heap.size := ⟨_, rfl⟩
 rw [← hN10] at hb10 hw10 ⊢
 rw [← hN10] at l4hb8
 revert hb8 G HT hb10
 generalize (A2.alloc (.cells [Value.int IntKind.u64 0, Value.int IntKind.u64 0, Value.int IntKind.u64 0, Value.int IntKind.u64 0, Value.int IntKind.u64 0, Value.int IntKind.u64 0, Value.int IntKind.u64 0, Value.int IntKind.u64 0, Value.int IntKind.u64 0, Value.int IntKind.u64 0, Value.int IntKind.u64 0, Value.int IntKind.u64 0, Value.int IntKind.u64 0, Value.int IntKind.u64 0, Value.int IntKind.u64 0, Value.int IntKind.u64 0, Value.int IntKind.u64 0, Value.int IntKind.u64 0, Value.int IntKind.u64 0, Value.int IntKind.u64 0, Value.slice none 0 0].toArray 38)) = A2x
 intro hb8 G HT hb10
 clear hN10
 refine Fg.wpl_skip rfl rfl (Fg.run_store (cs := spL tR (.slice sT 32 sc)) rfl rfl rfl (hb10.there 0 21 (by show 0 + 21 ≤ 21; decide)) info_sp (spL_one _ _ _ _)) ?_
 replace hb8 := hb8.setCells_other (C := N10) (cs := spL tR (.slice sT 32 sc)) 0 (by omega)
 replace hb10 : Blk (A2x.setCells N10 0 (spL tR (.slice sT 32 sc))) N10 38 (spL tR (.slice sT 32 sc)) := hb10.setAll rfl
 replace G := gb_setCells_new (cs := spL tR (.slice sT 32 sc)) G (B := N10) (hw10) 0
 replace HT := HT.keep (gb_setCells (cs := spL tR (.slice sT 32 sc)) (gb_refl _ (some N10)) 0) (HT0.noG (hw10))
 revert hb8 hb10 G HT
 generalize A2x.setCells N10 0 (spL tR (.slice sT 32 sc)) = W2
 intro hb8 hb10 G HT
 refine Fg.wpl_value (v := .bool bR) (w' := W2) rfl (Fg.run_assign rfl rfl) ?_
 simp only [Act.put, List.setIfInBounds_toArray, List.set_cons_succ, List.set_cons_zero]
 refine wpList_nil ?_
 cases bA with
 | false =>
  go_upto_region 6 with (fail)
  have Gs2 := G.size
  have l5hb8 := hb8.lt
  have l5hb10 := hb10.lt
  refine Fg.rP [] [.any, .any, .any, .any, .any, .any, .any, .any, .any, .any, .any, .any, .any, .any, .any, .any, .any, .any, .any, .any, .any, .any, .any, .any, .any, .any, .any, .any, .any, .val (Value.bool false), .val (Value.bool true), .val (Value.bool true), .val undef, .val undef, .val (Value.bool true), .val (Value.bool true), .val undef, .val undef, .val undef, .val (Value.bool true)] 11 ?_ ?_
  ·refine Fg.vS rfl (by decide) (fun ac w h => ?_) ?_
   ·have e9 : _ = Value.bool false := h.r 9
    exact Fg.vn (Value.bool false) (Fg.run_move rfl e9)
   refine Fg.vS rfl (by decide) (fun ac w h => ?_) ?_
   ·have e29 : _ = Value.bool false := h.d 29
    refine ⟨wants_none rfl, Value.bool true, w, ?_, gb_refl _ _, rfl⟩
    clear h
    simp only [execOp, Act.eval, e29]
    go_simp
   refine Fg.vS rfl (by decide) (fun ac w h => ?_) ?_
   ·have e30 : _ = Value.bool true := h.d 30
    exact Fg.vn (Value.bool true) (Fg.run_move rfl e30)
   refine ⟨⟨⟨_, rfl⟩, Fg.skippedP rfl (by decide) (fun _ => rfl) fun ac w h => ?_⟩, ?_⟩
   ·have e31 : _ = Value.bool true := h.d 31
    exact not_wants (d := 31) rfl rfl (by rw [h.size]; show 31 < 56; decide) e31 (by decide)
   refine ⟨⟨⟨_, rfl⟩, Fg.skippedP rfl (by decide) (fun _ => rfl) fun ac w h => ?_⟩, ?_⟩
   ·have e31 : _ = Value.bool true := h.d 31
    exact not_wants (d := 31) rfl rfl (by rw [h.size]; show 31 < 56; decide) e31 (by decide)
   refine Fg.vS rfl (by decide) (fun ac w h => ?_) ?_
   ·have e31 : _ = Value.bool true := h.d 31
    refine ⟨wants_none rfl, Value.bool true, w, ?_, gb_refl _ _, rfl⟩
    clear h
    simp only [execOp, Act.eval, e31]
    go_simp
   refine Fg.vS rfl (by decide) (fun ac w h => ?_) ?_
   ·have e34 : _ = Value.bool true := h.d 34
    exact Fg.vn (Value.bool true) (Fg.run_move rfl e34)
   refine ⟨⟨⟨_, rfl⟩, Fg.skippedP rfl (by decide) (fun _ => rfl) fun ac w h => ?_⟩, ?_⟩
   ·have e35 : _ = Value.bool true := h.d 35
    exact not_wants (d := 35) rfl rfl (by rw [h.size]; show 35 < 56; decide) e35 (by decide)
   refine ⟨⟨⟨_, rfl⟩, Fg.skippedP rfl (by decide) (fun _ => rfl) fun ac w h => ?_⟩, ?_⟩
   ·have e35 : _ = Value.bool true := h.d 35
    exact not_wants (d := 35) rfl rfl (by rw [h.size]; show 35 < 56; decide) e35 (by decide)
   refine ⟨⟨⟨_, rfl⟩, Fg.skippedP rfl (by decide) (fun _ => rfl) fun ac w h => ?_⟩, ?_⟩
   ·have e35 : _ = Value.bool true := h.d 35
    exact not_wants (d := 35) rfl rfl (by rw [h.size]; show 35 < 56; decide) e35 (by decide)
   refine Fg.vS rfl (by decide) (fun ac w h => ?_) ?_
   ·have e35 : _ = Value.bool true := h.d 35
    refine ⟨wants_none rfl, Value.bool true, w, ?_, gb_refl _ _, rfl⟩
    clear h
    simp only [execOp, Act.eval, e35]
    go_simp
   trivial
  ·intro qa V3 g3 hsz hdf hrest hslots hpt
   obtain ⟨⟨u13, hs13⟩, ⟨u14, hs14⟩, ⟨u15, hs15⟩, ⟨u16, hs16⟩, ⟨u17, hs17⟩, ⟨u18, hs18⟩, ⟨u19, hs19⟩, ⟨u20, hs20⟩, ⟨u21, hs21⟩, ⟨u22, hs22⟩, ⟨u23, hs23⟩, ⟨u24, hs24⟩, ⟨u25, hs25⟩, ⟨u26, hs26⟩, ⟨u27, hs27⟩, ⟨u28, hs28⟩, ⟨u29, hs29⟩, ⟨u30, hs30⟩, ⟨u31, hs31⟩, ⟨u32, hs32⟩, ⟨u33, hs33⟩, ⟨u34, hs34⟩, ⟨u35, hs35⟩, ⟨u36, hs36⟩, ⟨u37, hs37⟩, ⟨u38, hs38⟩, _⟩ := Fg.slotvs qa [13, 14, 15, 16, 17, 18, 19, 20, 21, 22, 23, 24, 25, 26, 27, 28, 29, 30, 31, 32, 33, 34, 35, 36, 37, 38]
   obtain rfl := Fg.frame_by [13, 14, 15, 16, 17, 18, 19, 20, 21, 22, 23, 24, 25, 26, 27, 28, 29, 30, 31, 32, 33, 34, 35, 36, 37, 38, 39] (vs := [Value.slice a n cap, Value.slice sa 64 sc, Value.slice bt mt ct, undef, undef, undef, Value.bool false, Value.slice sF 32 (sc - 32), Value.pointer (some ⟨N8, 0, none⟩), Value.bool false, Value.pointer (some ⟨N10, 0, none⟩), Value.bool bR, undef, u13, u14, u15, u16, u17, u18, u19, u20, u21, u22, u23, u24, u25, u26, u27, u28, u29, u30, u31, u32, u33, u34, u35, u36, u37, u38, Value.bool true, undef, undef, undef, undef, undef, undef, undef, undef, undef, undef, undef, undef, undef, undef, undef, undef]) hsz hrest (by kernel_rfl) rfl rfl ⟨hs13, hs14, hs15, hs16, hs17, hs18, hs19, hs20, hs21, hs22, hs23, hs24, hs25, hs26, hs27, hs28, hs29, hs30, hs31, hs32, hs33, hs34, hs35, hs36, hs37, hs38, (show qa.tmps.getD 39 undef = Value.bool true from hslots 39 (by kernel_rfl)), trivial⟩ hdf
   clear hsz hdf hrest hslots hpt hs13 hs14 hs15 hs16 hs17 hs18 hs19 hs20 hs21 hs22 hs23 hs24 hs25 hs26 hs27 hs28 hs29 hs30 hs31 hs32 hs33 hs34 hs35 hs36 hs37 hs38
   replace hb8 := hb8.gn g3
   replace hb10 := hb10.gn g3
   replace G := gb_trans G g3
   replace HT := HT.grown g3
   clear g3
   go_wp2_with fail
   go_ret
   exact ⟨false, rfl, G, ⟨fun h => absurd h (by decide), fun ⟨h1, A, _, hA, eA, _⟩ => absurd ⟨h1, A, hA, eA⟩ (HYA.out.2 trivial).2⟩⟩
 | true =>
  cases bR with
  | false =>
   go_upto_region 6 with (fail)
   have Gs2 := G.size
   have l5hb8 := hb8.lt
   have l5hb10 := hb10.lt
   refine Fg.rP [] [.any, .any, .any, .any, .any, .any, .any, .any, .any, .any, .any, .any, .any, .any, .any, .any, .any, .any, .any, .any, .any, .any, .any, .any, .any, .any, .any, .any, .any, .val (Value.bool true), .val (Value.bool false), .val (Value.bool false), .val (Value.bool false), .val (Value.bool true), .val (Value.bool true), .val (Value.bool true), .val undef, .val undef, .val undef, .val (Value.bool true)] 11 ?_ ?_
   ·refine Fg.vS rfl (by decide) (fun ac w h => ?_) ?_
    ·have e9 : _ = Value.bool true := h.r 9
     exact Fg.vn (Value.bool true) (Fg.run_move rfl e9)
    refine Fg.vS rfl (by decide) (fun ac w h => ?_) ?_
    ·have e29 : _ = Value.bool true := h.d 29
     refine ⟨wants_none rfl, Value.bool false, w, ?_, gb_refl _ _, rfl⟩
     clear h
     simp only [execOp, Act.eval, e29]
     go_simp
    refine Fg.vS rfl (by decide) (fun ac w h => ?_) ?_
    ·have e30 : _ = Value.bool false := h.d 30
     exact Fg.vn (Value.bool false) (Fg.run_move rfl e30)
    refine Fg.vS rfl (by decide) (fun ac w h => ?_) ?_
    ·have e31 : _ = Value.bool false := h.d 31
     have e11 : _ = Value.bool false := h.r 11
     exact Fg.vx (Value.bool false) (wants_some (d := 31) rfl rfl (by rw [h.size]; show 31 < 56; decide) e31) (Fg.run_move rfl e11)
    refine Fg.vS rfl (by decide) (fun ac w h => ?_) ?_
    ·have e31 : _ = Value.bool false := h.d 31
     have e32 : _ = Value.bool false := h.d 32
     refine ⟨wants_some (d := 31) rfl rfl (by rw [h.size]; show 31 < 56; decide) e31, Value.bool true, w, ?_, gb_refl _ _, rfl⟩
     clear h
     simp only [execOp, Act.eval, e32]
     go_simp
    refine Fg.vS rfl (by decide) (fun ac w h => ?_) ?_
    ·have e31 : _ = Value.bool false := h.d 31
     have e33 : _ = Value.bool true := h.d 33
     refine ⟨wants_none rfl, Value.bool true, w, ?_, gb_refl _ _, rfl⟩
     clear h
     simp only [execOp, Act.eval, e31, e33]
     go_simp
    refine Fg.vS rfl (by decide) (fun ac w h => ?_) ?_
    ·have e34 : _ = Value.bool true := h.d 34
     exact Fg.vn (Value.bool true) (Fg.run_move rfl e34)
    refine ⟨⟨⟨_, rfl⟩, Fg.skippedP rfl (by decide) (fun _ => rfl) fun ac w h => ?_⟩, ?_⟩
    ·have e35 : _ = Value.bool true := h.d 35
     exact not_wants (d := 35) rfl rfl (by rw [h.size]; show 35 < 56; decide) e35 (by decide)
    refine ⟨⟨⟨_, rfl⟩, Fg.skippedP rfl (by decide) (fun _ => rfl) fun ac w h => ?_⟩, ?_⟩
    ·have e35 : _ = Value.bool true := h.d 35
     exact not_wants (d := 35) rfl rfl (by rw [h.size]; show 35 < 56; decide) e35 (by decide)
    refine ⟨⟨⟨_, rfl⟩, Fg.skippedP rfl (by decide) (fun _ => rfl) fun ac w h => ?_⟩, ?_⟩
    ·have e35 : _ = Value.bool true := h.d 35
     exact not_wants (d := 35) rfl rfl (by rw [h.size]; show 35 < 56; decide) e35 (by decide)
    refine Fg.vS rfl (by decide) (fun ac w h => ?_) ?_
    ·have e35 : _ = Value.bool true := h.d 35
     refine ⟨wants_none rfl, Value.bool true, w, ?_, gb_refl _ _, rfl⟩
     clear h
     simp only [execOp, Act.eval, e35]
     go_simp
    trivial
   ·intro qa V3 g3 hsz hdf hrest hslots hpt
    obtain ⟨⟨u13, hs13⟩, ⟨u14, hs14⟩, ⟨u15, hs15⟩, ⟨u16, hs16⟩, ⟨u17, hs17⟩, ⟨u18, hs18⟩, ⟨u19, hs19⟩, ⟨u20, hs20⟩, ⟨u21, hs21⟩, ⟨u22, hs22⟩, ⟨u23, hs23⟩, ⟨u24, hs24⟩, ⟨u25, hs25⟩, ⟨u26, hs26⟩, ⟨u27, hs27⟩, ⟨u28, hs28⟩, ⟨u29, hs29⟩, ⟨u30, hs30⟩, ⟨u31, hs31⟩, ⟨u32, hs32⟩, ⟨u33, hs33⟩, ⟨u34, hs34⟩, ⟨u35, hs35⟩, ⟨u36, hs36⟩, ⟨u37, hs37⟩, ⟨u38, hs38⟩, _⟩ := Fg.slotvs qa [13, 14, 15, 16, 17, 18, 19, 20, 21, 22, 23, 24, 25, 26, 27, 28, 29, 30, 31, 32, 33, 34, 35, 36, 37, 38]
    obtain rfl := Fg.frame_by [13, 14, 15, 16, 17, 18, 19, 20, 21, 22, 23, 24, 25, 26, 27, 28, 29, 30, 31, 32, 33, 34, 35, 36, 37, 38, 39] (vs := [Value.slice a n cap, Value.slice sa 64 sc, Value.slice bt mt ct, undef, undef, undef, Value.bool false, Value.slice sF 32 (sc - 32), Value.pointer (some ⟨N8, 0, none⟩), Value.bool true, Value.pointer (some ⟨N10, 0, none⟩), Value.bool false, undef, u13, u14, u15, u16, u17, u18, u19, u20, u21, u22, u23, u24, u25, u26, u27, u28, u29, u30, u31, u32, u33, u34, u35, u36, u37, u38, Value.bool true, undef, undef, undef, undef, undef, undef, undef, undef, undef, undef, undef, undef, undef, undef, undef, undef]) hsz hrest (by kernel_rfl) rfl rfl ⟨hs13, hs14, hs15, hs16, hs17, hs18, hs19, hs20, hs21, hs22, hs23, hs24, hs25, hs26, hs27, hs28, hs29, hs30, hs31, hs32, hs33, hs34, hs35, hs36, hs37, hs38, (show qa.tmps.getD 39 undef = Value.bool true from hslots 39 (by kernel_rfl)), trivial⟩ hdf
    clear hsz hdf hrest hslots hpt hs13 hs14 hs15 hs16 hs17 hs18 hs19 hs20 hs21 hs22 hs23 hs24 hs25 hs26 hs27 hs28 hs29 hs30 hs31 hs32 hs33 hs34 hs35 hs36 hs37 hs38
    replace hb8 := hb8.gn g3
    replace hb10 := hb10.gn g3
    replace G := gb_trans G g3
    replace HT := HT.grown g3
    clear g3
    go_wp2_with fail
    go_ret
    exact ⟨false, rfl, G, ⟨fun h => absurd h (by decide), fun ⟨_, _, R, _, _, hR, eR, _⟩ => absurd ⟨hst, R, hR, eR⟩ (HYR.out.2 trivial).2⟩⟩
  | true =>
   cases hq : decide (num (s.drop 32) < Sc.L) with
   | false =>
    go_upto_region 6 with (fail)
    have Gs2 := G.size
    have l5hb8 := hb8.lt
    have l5hb10 := hb10.lt
    refine Fg.rP [] [.any, .any, .any, .any, .any, .any, .any, .any, .any, .any, .any, .any, .any, .any, .any, .any, .any, .any, .any, .any, .any, .any, .any, .any, .any, .any, .any, .any, .any, .val (Value.bool true), .val (Value.bool false), .val (Value.bool false), .val (Value.bool true), .val (Value.bool false), .val (Value.bool false), .val (Value.bool false), .val (Value.slice sF 32 (sc - 32)), .val (Value.bool false), .val (Value.bool true), .val (Value.bool true)] 11 ?_ ?_
    ·refine Fg.vS rfl (by decide) (fun ac w h => ?_) ?_
     ·have e9 : _ = Value.bool true := h.r 9
      exact Fg.vn (Value.bool true) (Fg.run_move rfl e9)
     refine Fg.vS rfl (by decide) (fun ac w h => ?_) ?_
     ·have e29 : _ = Value.bool true := h.d 29
      refine ⟨wants_none rfl, Value.bool false, w, ?_, gb_refl _ _, rfl⟩
      clear h
      simp only [execOp, Act.eval, e29]
      go_simp
     refine Fg.vS rfl (by decide) (fun ac w h => ?_) ?_
     ·have e30 : _ = Value.bool false := h.d 30
      exact Fg.vn (Value.bool false) (Fg.run_move rfl e30)
     refine Fg.vS rfl (by decide) (fun ac w h => ?_) ?_
     ·have e31 : _ = Value.bool false := h.d 31
      have e11 : _ = Value.bool true := h.r 11
      exact Fg.vx (Value.bool true) (wants_some (d := 31) rfl rfl (by rw [h.size]; show 31 < 56; decide) e31) (Fg.run_move rfl e11)
     refine Fg.vS rfl (by decide) (fun ac w h => ?_) ?_
     ·have e31 : _ = Value.bool false := h.d 31
      have e32 : _ = Value.bool true := h.d 32
      refine ⟨wants_some (d := 31) rfl rfl (by rw [h.size]; show 31 < 56; decide) e31, Value.bool false, w, ?_, gb_refl _ _, rfl⟩
      clear h
      simp only [execOp, Act.eval, e32]
      go_simp
     refine Fg.vS rfl (by decide) (fun ac w h => ?_) ?_
     ·have e31 : _ = Value.bool false := h.d 31
      have e33 : _ = Value.bool false := h.d 33
      refine ⟨wants_none rfl, Value.bool false, w, ?_, gb_refl _ _, rfl⟩
      clear h
      simp only [execOp, Act.eval, e31, e33]
      go_simp
     refine Fg.vS rfl (by decide) (fun ac w h => ?_) ?_
     ·have e34 : _ = Value.bool false := h.d 34
      exact Fg.vn (Value.bool false) (Fg.run_move rfl e34)
     refine Fg.vS rfl (by decide) (fun ac w h => ?_) ?_
     ·have e35 : _ = Value.bool false := h.d 35
      have e7 : _ = Value.slice sF 32 (sc - 32) := h.r 7
      exact Fg.vx (Value.slice sF 32 (sc - 32)) (wants_some (d := 35) rfl rfl (by rw [h.size]; show 35 < 56; decide) e35) (Fg.run_move rfl e7)
     refine Fg.cS rfl (by decide) (fun ac w h => ?_) ?_
     ·have e35 : _ = Value.bool false := h.d 35
      have e36 : _ = Value.slice sF 32 (sc - 32) := h.d 36
      refine ⟨wants_some (d := 35) rfl rfl (by rw [h.size]; show 35 < 56; decide) e35, 9, #[Value.slice sF 32 (sc - 32)], Fg.run_call rfl rfl (by simp only [List.map_toArray, List.map_cons, List.map_nil, Act.eval, e36]) (Fg.run_enter Tryz.func9 (by kernel_rfl) (by kernel_rfl)), ?_⟩
      exact (sright_val (sc - 32) Bs sF (s.drop 32) _ false hsd (HSF.out.stay (gb_trans G h.base)) (HO0.kept (gb_trans G h.base) (fun r e => by cases e)) hq).mono fun _ _ ⟨he, hg⟩ => ⟨_, he, hg, rfl⟩
     refine Fg.vS rfl (by decide) (fun ac w h => ?_) ?_
     ·have e35 : _ = Value.bool false := h.d 35
      have e37 : _ = Value.bool false := h.d 37
      refine ⟨wants_some (d := 35) rfl rfl (by rw [h.size]; show 35 < 56; decide) e35, Value.bool true, w, ?_, gb_refl _ _, rfl⟩
      clear h
      simp only [execOp, Act.eval, e37]
      go_simp
     refine Fg.vS rfl (by decide) (fun ac w h => ?_) ?_
     ·have e35 : _ = Value.bool false := h.d 35
      have e38 : _ = Value.bool true := h.d 38
      refine ⟨wants_none rfl, Value.bool true, w, ?_, gb_refl _ _, rfl⟩
      clear h
      simp only [execOp, Act.eval, e35, e38]
      go_simp
     trivial
    ·intro qa V3 g3 hsz hdf hrest hslots hpt
     obtain ⟨⟨u13, hs13⟩, ⟨u14, hs14⟩, ⟨u15, hs15⟩, ⟨u16, hs16⟩, ⟨u17, hs17⟩, ⟨u18, hs18⟩, ⟨u19, hs19⟩, ⟨u20, hs20⟩, ⟨u21, hs21⟩, ⟨u22, hs22⟩, ⟨u23, hs23⟩, ⟨u24, hs24⟩, ⟨u25, hs25⟩, ⟨u26, hs26⟩, ⟨u27, hs27⟩, ⟨u28, hs28⟩, ⟨u29, hs29⟩, ⟨u30, hs30⟩, ⟨u31, hs31⟩, ⟨u32, hs32⟩, ⟨u33, hs33⟩, ⟨u34, hs34⟩, ⟨u35, hs35⟩, ⟨u36, hs36⟩, ⟨u37, hs37⟩, ⟨u38, hs38⟩, _⟩ := Fg.slotvs qa [13, 14, 15, 16, 17, 18, 19, 20, 21, 22, 23, 24, 25, 26, 27, 28, 29, 30, 31, 32, 33, 34, 35, 36, 37, 38]
     obtain rfl := Fg.frame_by [13, 14, 15, 16, 17, 18, 19, 20, 21, 22, 23, 24, 25, 26, 27, 28, 29, 30, 31, 32, 33, 34, 35, 36, 37, 38, 39] (vs := [Value.slice a n cap, Value.slice sa 64 sc, Value.slice bt mt ct, undef, undef, undef, Value.bool false, Value.slice sF 32 (sc - 32), Value.pointer (some ⟨N8, 0, none⟩), Value.bool true, Value.pointer (some ⟨N10, 0, none⟩), Value.bool true, undef, u13, u14, u15, u16, u17, u18, u19, u20, u21, u22, u23, u24, u25, u26, u27, u28, u29, u30, u31, u32, u33, u34, u35, u36, u37, u38, Value.bool true, undef, undef, undef, undef, undef, undef, undef, undef, undef, undef, undef, undef, undef, undef, undef, undef]) hsz hrest (by kernel_rfl) rfl rfl ⟨hs13, hs14, hs15, hs16, hs17, hs18, hs19, hs20, hs21, hs22, hs23, hs24, hs25, hs26, hs27, hs28, hs29, hs30, hs31, hs32, hs33, hs34, hs35, hs36, hs37, hs38, (show qa.tmps.getD 39 undef = Value.bool true from hslots 39 (by kernel_rfl)), trivial⟩ hdf
     clear hsz hdf hrest hslots hpt hs13 hs14 hs15 hs16 hs17 hs18 hs19 hs20 hs21 hs22 hs23 hs24 hs25 hs26 hs27 hs28 hs29 hs30 hs31 hs32 hs33 hs34 hs35 hs36 hs37 hs38
     replace hb8 := hb8.gn g3
     replace hb10 := hb10.gn g3
     replace G := gb_trans G g3
     replace HT := HT.grown g3
     clear g3
     go_wp2_with fail
     go_ret
     exact ⟨false, rfl, G, ⟨fun h => absurd h (by decide), fun ⟨_, _, _, _, _, _, _, hS, _⟩ => absurd hS (of_decide_eq_false hq)⟩⟩
   | true =>
    go_upto_region 6 with (fail)
    have Gs2 := G.size
    have l5hb8 := hb8.lt
    have l5hb10 := hb10.lt
    refine Fg.rP [] [.any, .any, .any, .any, .any, .any, .any, .any, .any, .any, .any, .any, .any, .any, .any, .any, .any, .any, .any, .any, .any, .any, .any, .any, .any, .any, .any, .any, .any, .val (Value.bool true), .val (Value.bool false), .val (Value.bool false), .val (Value.bool true), .val (Value.bool false), .val (Value.bool false), .val (Value.bool false), .val (Value.slice sF 32 (sc - 32)), .val (Value.bool true), .val (Value.bool false), .val (Value.bool false)] 11 ?_ ?_
    ·refine Fg.vS rfl (by decide) (fun ac w h => ?_) ?_
     ·have e9 : _ = Value.bool true := h.r 9
      exact Fg.vn (Value.bool true) (Fg.run_move rfl e9)
     refine Fg.vS rfl (by decide) (fun ac w h => ?_) ?_
     ·have e29 : _ = Value.bool true := h.d 29
      refine ⟨wants_none rfl, Value.bool false, w, ?_, gb_refl _ _, rfl⟩
      clear h
      simp only [execOp, Act.eval, e29]
      go_simp
     refine Fg.vS rfl (by decide) (fun ac w h => ?_) ?_
     ·have e30 : _ = Value.bool false := h.d 30
      exact Fg.vn (Value.bool false) (Fg.run_move rfl e30)
     refine Fg.vS rfl (by decide) (fun ac w h => ?_) ?_
     ·have e31 : _ = Value.bool false := h.d 31
      have e11 : _ = Value.bool true := h.r 11
      exact Fg.vx (Value.bool true) (wants_some (d := 31) rfl rfl (by rw [h.size]; show 31 < 56; decide) e31) (Fg.run_move rfl e11)
     refine Fg.vS rfl (by decide) (fun ac w h => ?_) ?_
     ·have e31 : _ = Value.bool false := h.d 31
      have e32 : _ = Value.bool true := h.d 32
      refine ⟨wants_some (d := 31) rfl rfl (by rw [h.size]; show 31 < 56; decide) e31, Value.bool false, w, ?_, gb_refl _ _, rfl⟩
      clear h
      simp only [execOp, Act.eval, e32]
      go_simp
     refine Fg.vS rfl (by decide) (fun ac w h => ?_) ?_
     ·have e31 : _ = Value.bool false := h.d 31
      have e33 : _ = Value.bool false := h.d 33
      refine ⟨wants_none rfl, Value.bool false, w, ?_, gb_refl _ _, rfl⟩
      clear h
      simp only [execOp, Act.eval, e31, e33]
      go_simp
     refine Fg.vS rfl (by decide) (fun ac w h => ?_) ?_
     ·have e34 : _ = Value.bool false := h.d 34
      exact Fg.vn (Value.bool false) (Fg.run_move rfl e34)
     refine Fg.vS rfl (by decide) (fun ac w h => ?_) ?_
     ·have e35 : _ = Value.bool false := h.d 35
      have e7 : _ = Value.slice sF 32 (sc - 32) := h.r 7
      exact Fg.vx (Value.slice sF 32 (sc - 32)) (wants_some (d := 35) rfl rfl (by rw [h.size]; show 35 < 56; decide) e35) (Fg.run_move rfl e7)
     refine Fg.cS rfl (by decide) (fun ac w h => ?_) ?_
     ·have e35 : _ = Value.bool false := h.d 35
      have e36 : _ = Value.slice sF 32 (sc - 32) := h.d 36
      refine ⟨wants_some (d := 35) rfl rfl (by rw [h.size]; show 35 < 56; decide) e35, 9, #[Value.slice sF 32 (sc - 32)], Fg.run_call rfl rfl (by simp only [List.map_toArray, List.map_cons, List.map_nil, Act.eval, e36]) (Fg.run_enter Tryz.func9 (by kernel_rfl) (by kernel_rfl)), ?_⟩
      exact (sright_val (sc - 32) Bs sF (s.drop 32) _ true hsd (HSF.out.stay (gb_trans G h.base)) (HO0.kept (gb_trans G h.base) (fun r e => by cases e)) hq).mono fun _ _ ⟨he, hg⟩ => ⟨_, he, hg, rfl⟩
     refine Fg.vS rfl (by decide) (fun ac w h => ?_) ?_
     ·have e35 : _ = Value.bool false := h.d 35
      have e37 : _ = Value.bool true := h.d 37
      refine ⟨wants_some (d := 35) rfl rfl (by rw [h.size]; show 35 < 56; decide) e35, Value.bool false, w, ?_, gb_refl _ _, rfl⟩
      clear h
      simp only [execOp, Act.eval, e37]
      go_simp
     refine Fg.vS rfl (by decide) (fun ac w h => ?_) ?_
     ·have e35 : _ = Value.bool false := h.d 35
      have e38 : _ = Value.bool false := h.d 38
      refine ⟨wants_none rfl, Value.bool false, w, ?_, gb_refl _ _, rfl⟩
      clear h
      simp only [execOp, Act.eval, e35, e38]
      go_simp
     trivial
    ·intro qa V3 g3 hsz hdf hrest hslots hpt
     obtain ⟨⟨u13, hs13⟩, ⟨u14, hs14⟩, ⟨u15, hs15⟩, ⟨u16, hs16⟩, ⟨u17, hs17⟩, ⟨u18, hs18⟩, ⟨u19, hs19⟩, ⟨u20, hs20⟩, ⟨u21, hs21⟩, ⟨u22, hs22⟩, ⟨u23, hs23⟩, ⟨u24, hs24⟩, ⟨u25, hs25⟩, ⟨u26, hs26⟩, ⟨u27, hs27⟩, ⟨u28, hs28⟩, ⟨u29, hs29⟩, ⟨u30, hs30⟩, ⟨u31, hs31⟩, ⟨u32, hs32⟩, ⟨u33, hs33⟩, ⟨u34, hs34⟩, ⟨u35, hs35⟩, ⟨u36, hs36⟩, ⟨u37, hs37⟩, ⟨u38, hs38⟩, _⟩ := Fg.slotvs qa [13, 14, 15, 16, 17, 18, 19, 20, 21, 22, 23, 24, 25, 26, 27, 28, 29, 30, 31, 32, 33, 34, 35, 36, 37, 38]
     obtain rfl := Fg.frame_by [13, 14, 15, 16, 17, 18, 19, 20, 21, 22, 23, 24, 25, 26, 27, 28, 29, 30, 31, 32, 33, 34, 35, 36, 37, 38, 39] (vs := [Value.slice a n cap, Value.slice sa 64 sc, Value.slice bt mt ct, undef, undef, undef, Value.bool false, Value.slice sF 32 (sc - 32), Value.pointer (some ⟨N8, 0, none⟩), Value.bool true, Value.pointer (some ⟨N10, 0, none⟩), Value.bool true, undef, u13, u14, u15, u16, u17, u18, u19, u20, u21, u22, u23, u24, u25, u26, u27, u28, u29, u30, u31, u32, u33, u34, u35, u36, u37, u38, Value.bool false, undef, undef, undef, undef, undef, undef, undef, undef, undef, undef, undef, undef, undef, undef, undef, undef]) hsz hrest (by kernel_rfl) rfl rfl ⟨hs13, hs14, hs15, hs16, hs17, hs18, hs19, hs20, hs21, hs22, hs23, hs24, hs25, hs26, hs27, hs28, hs29, hs30, hs31, hs32, hs33, hs34, hs35, hs36, hs37, hs38, (show qa.tmps.getD 39 undef = Value.bool false from hslots 39 (by kernel_rfl)), trivial⟩ hdf
     clear hsz hdf hrest hslots hpt hs13 hs14 hs15 hs16 hs17 hs18 hs19 hs20 hs21 hs22 hs23 hs24 hs25 hs26 hs27 hs28 hs29 hs30 hs31 hs32 hs33 hs34 hs35 hs36 hs37 hs38
     replace hb8 := hb8.gn g3
     replace hb10 := hb10.gn g3
     replace G := gb_trans G g3
     replace HT := HT.grown g3
     clear g3
     go_upto_region 8 with (fail)
     refine wp_region_lit ?_
     refine Fg.wpl_value (v := .slice bt mt ct) (w' := V3) rfl (Fg.run_move rfl rfl) ?_
     simp only [Act.put, List.setIfInBounds_toArray, List.set_cons_succ, List.set_cons_zero]
     refine Fg.wpl_value (v := .pointer (some ⟨N10, 20, none⟩)) (w' := V3) rfl (by go_simp) ?_
     simp only [Act.put, List.setIfInBounds_toArray, List.set_cons_succ, List.set_cons_zero]
     refine Fg.wpl_value (v := .slice sT 32 sc) (w' := V3) rfl (ld_slice rfl rfl (hb10.cell (i := 20) rfl)) ?_
     simp only [Act.put, List.setIfInBounds_toArray, List.set_cons_succ, List.set_cons_zero]
     refine Fg.wpl_value (v := .pointer (some ⟨N8, 20, none⟩)) (w' := V3) rfl (by go_simp) ?_
     simp only [Act.put, List.setIfInBounds_toArray, List.set_cons_succ, List.set_cons_zero]
     refine Fg.wpl_value (v := .slice a n cap) (w' := V3) rfl (ld_slice rfl rfl (hb8.cell (i := 20) rfl)) ?_
     simp only [Act.put, List.setIfInBounds_toArray, List.set_cons_succ, List.set_cons_zero]
     have l6hb8 := hb8.lt
     have l6hb10 := hb10.lt
     refine Fg.wpl_value (v := .slice (some ⟨V3.heap.size, 0, none⟩) 2 2) (w' := V3.alloc (.cells #[.slice sT 32 sc, .slice a n cap] 22)) rfl (by go_simp) ?_
     simp only [Act.put, List.setIfInBounds_toArray, List.set_cons_succ, List.set_cons_zero]
     have gz := gb_alloc (gb_refl V3 none) (.cells #[.slice sT 32 sc, .slice a n cap] 22)
     have hZ := Blk.new V3 [.slice sT 32 sc, .slice a n cap] 22
     have hwZ : w0.heap.size ≤ V3.heap.size := G.size
     replace hb8 := hb8.gn gz
     replace hb10 := hb10.gn gz
     replace G := gb_trans G gz
     replace HT := HT.grown gz
     clear gz
     obtain ⟨Z, eZ⟩ : ∃ x, x = V3.heap.size := ⟨_, rfl⟩
     rw [← eZ] at hZ hwZ ⊢
     clear eZ
     revert hb8 hb10 G HT hZ
     generalize (V3.alloc (.cells #[.slice sT 32 sc, .slice a n cap] 22)) = XZ
     intro hb8 hb10 G HT hZ
     have hl32 : l.length = 32 := by obtain ⟨_, _, h, _⟩ := HYA.out.1 trivial; exact h
     refine Fg.wpl_call rfl (Fg.run_call (vs := #[.slice bt mt ct, .slice (some ⟨Z, 0, none⟩) 2 2]) rfl rfl (by simp only [List.map_toArray, List.map_cons, List.map_nil, Act.eval]; rfl) (Fg.run_enter Tryz.func16 (by kernel_rfl) (by kernel_rfl))) ?_
     refine (num_any mt ct 2 2 _ _ bt (some ⟨Z, 0, none⟩) pt [⟨sT, sc, s.take 32⟩, ⟨a, cap, l⟩] XZ (HO0.kept G (fun r e => by cases e)) (HS0.kept G (fun b e => by cases e)) hpt rfl (HPt.out.grown G (Nat.le_refl _)) (parts2 hst hl hZ (HST.out.stay G) (HPB.out.stay G)) hct (by decide) (by rw [part_two]; simp only [List.length_append]; omega)).mono ?_
     rintro e YK ho
     rw [part_two] at ho
     obtain ⟨gk, rfl, ga, hnk, hbk⟩ := outB_blk ho (scB_length _)
     refine ⟨_, rfl, ?_⟩
     clear ho
     obtain ⟨kk, hkk⟩ : ∃ k, k = scB (num (Sha.sum ((s.take 32 ++ l) ++ joined pt))) := ⟨_, rfl⟩
     rw [← hkk] at hbk
     have hkl : kk.length = 32 := by rw [hkk]; exact scB_length _
     have hkb : ∀ i, kk.getD i 0 < 256 := by rw [hkk]; exact scB_lt _
     have HK := Lib.hid hkk; clear hkk
     have hwk : w0.heap.size ≤ gk := Nat.le_trans G.size hnk
     replace hb8 := hb8.gn ga
     replace hb10 := hb10.gn ga
     replace hZ := hZ.gn ga
     replace G := gb_trans G ga
     replace HT := HT.grown ga
     clear ga
     simp only [Act.put, List.setIfInBounds_toArray, List.set_cons_succ, List.set_cons_zero]
     refine Fg.wpl_value (v := .slice (some ⟨gk, 0, none⟩) 32 32) (w' := YK) rfl (Fg.run_assign rfl rfl) ?_
     refine wpList_nil ?_
     simp only [Act.put, List.setIfInBounds_toArray, List.set_cons_succ, List.set_cons_zero]
     obtain ⟨A, hA, _, eA⟩ := HYA.out.1 trivial
     obtain ⟨R, hR, _, eR⟩ := HYR.out.1 trivial
     obtain ⟨bb, hbb⟩ := bool_of' (Ed.add (nmul (num kk) (Ed.neg A)) (nmul (num (s.drop 32)) baseR) = R)
     go_upto_region 9 with (fail)
     have Gs3 := G.size
     have l7hb8 := hb8.lt
     have l7hb10 := hb10.lt
     have l7hZ := hZ.lt
     have l7hbk := hbk.lt
     refine Fg.rT [] [.any, .any, .any, .any, .any, .any, .val (Value.bool bb), .any, .any, .any, .any, .any, .any, .any, .any, .any, .any, .any, .any, .any, .any, .any, .any, .any, .any, .any, .any, .any, .any, .any, .any, .any, .any, .any, .any, .any, .any, .any, .any, .any, .any, .any, .any, .any, .any, .any, .any, .val (Value.slice (some ⟨gk, 0, none⟩) 32 32), .val (Value.pointer (some ⟨N8, 0, none⟩)), .val (tA.v), .stands (Ed.neg A), .val (Value.slice sF 32 (sc - 32)), .stands (Ed.add (nmul (num kk) (Ed.neg A)) (nmul (num (s.drop 32)) baseR)), .val (Value.pointer (some ⟨N10, 0, none⟩)), .val (tR.v), .val (Value.bool bb)] 10 ?_ ?_
     ·refine Fg.vS rfl (by decide) (fun ac w h => ?_) ?_
      ·have e12 : _ = Value.slice (some ⟨gk, 0, none⟩) 32 32 := h.r 12
       exact Fg.vn (Value.slice (some ⟨gk, 0, none⟩) 32 32) (Fg.run_move rfl e12)
      refine Fg.vS rfl (by decide) (fun ac w h => ?_) ?_
      ·have e8 : _ = Value.pointer (some ⟨N8, 0, none⟩) := h.r 8
       refine ⟨wants_none rfl, Value.pointer (some ⟨N8, 0, none⟩), w, ?_, gb_refl _ _, rfl⟩
       clear h
       simp only [execOp, Act.eval, e8]
       go_simp
      refine Fg.vS rfl (by decide) (fun ac w h => ?_) ?_
      ·have e48 : _ = Value.pointer (some ⟨N8, 0, none⟩) := h.d 48
       exact Fg.vn tA.v (Fg.run_load rfl e48 ((hb8.gn h.base).range 0 (ptL tA) rfl) Tryz.underlying36 rfl info_point)
      refine Fg.cS rfl (by decide) (fun ac w h => ?_) ?_
      ·have e49 : _ = tA.v := h.d 49
       refine ⟨wants_none rfl, 22, #[tA.v], Fg.run_call rfl rfl (by simp only [List.map_toArray, List.map_cons, List.map_nil, Act.eval, e49]) (Fg.run_enter Tryz.func22 (by kernel_rfl) (by kernel_rfl)), ?_⟩
       exact (edNeg tA A _ (HT.grown h.base) hA).mono fun _ _ ⟨t, ht, he, hg⟩ => ⟨_, he, hg, ⟨t, rfl, ht⟩⟩
      refine Fg.vS rfl (by decide) (fun ac w h => ?_) ?_
      ·have e7 : _ = Value.slice sF 32 (sc - 32) := h.r 7
       exact Fg.vn (Value.slice sF 32 (sc - 32)) (Fg.run_move rfl e7)
      refine Fg.cS rfl (by decide) (fun ac w h => ?_) ?_
      ·have e47 : _ = Value.slice (some ⟨gk, 0, none⟩) 32 32 := h.d 47
       obtain ⟨t50, e50, is_t50⟩ : ∃ t : Pt, ac.tmps.getD 50 undef = t.v ∧ PtIs t (Ed.neg A) := h.dep 50 (by kernel_rfl)
       have e51 : _ = Value.slice sF 32 (sc - 32) := h.d 51
       refine ⟨wants_none rfl, 21, #[Value.slice (some ⟨gk, 0, none⟩) 32 32, t50.v, Value.slice sF 32 (sc - 32)], Fg.run_call rfl rfl (by simp only [List.map_toArray, List.map_cons, List.map_nil, Act.eval, e47, e50, e51]) (Fg.run_enter Tryz.func21 (by kernel_rfl) (by kernel_rfl)), ?_⟩
       exact (edBoth t50 (Ed.neg A) kk (s.drop 32) 32 (sc - 32) _ Bs (some ⟨gk, 0, none⟩) sF _ (HT.grown h.base) is_t50 hkl hsd (Lib.hid (rowB0 (hbk.gn h.base) hkl hkb)) (Lib.hid (HSF.out.stay (gb_trans G h.base)))).mono fun _ _ ⟨t, ht, he, hg⟩ => ⟨_, he, hg, ⟨t, rfl, ht⟩⟩
      refine Fg.vS rfl (by decide) (fun ac w h => ?_) ?_
      ·have e10 : _ = Value.pointer (some ⟨N10, 0, none⟩) := h.r 10
       refine ⟨wants_none rfl, Value.pointer (some ⟨N10, 0, none⟩), w, ?_, gb_refl _ _, rfl⟩
       clear h
       simp only [execOp, Act.eval, e10]
       go_simp
      refine Fg.vS rfl (by decide) (fun ac w h => ?_) ?_
      ·have e53 : _ = Value.pointer (some ⟨N10, 0, none⟩) := h.d 53
       exact Fg.vn tR.v (Fg.run_load rfl e53 ((hb10.gn h.base).range 0 (ptL tR) rfl) Tryz.underlying36 rfl info_point)
      refine Fg.cS rfl (by decide) (fun ac w h => ?_) ?_
      ·obtain ⟨t52, e52, is_t52⟩ : ∃ t : Pt, ac.tmps.getD 52 undef = t.v ∧ PtIs t (Ed.add (nmul (num kk) (Ed.neg A)) (nmul (num (s.drop 32)) baseR)) := h.dep 52 (by kernel_rfl)
       have e54 : _ = tR.v := h.d 54
       refine ⟨wants_none rfl, 20, #[t52.v, tR.v], Fg.run_call rfl rfl (by simp only [List.map_toArray, List.map_cons, List.map_nil, Act.eval, e52, e54]) (Fg.run_enter Tryz.func20 (by kernel_rfl) (by kernel_rfl)), ?_⟩
       exact (edSameIs (b := bb) _ is_t52 hR hbb).mono fun _ _ ⟨he, hg⟩ => ⟨_, he, hg, rfl⟩
      refine Fg.vS rfl (by decide) (fun ac w h => ?_) ?_
      ·have e55 : _ = Value.bool bb := h.d 55
       exact Fg.vn (Value.bool bb) (Fg.run_assign rfl e55)
      trivial
     ·intro qa V4 g4 hsz hdf hrest hslots hpt
      obtain ⟨⟨u40, hs40⟩, ⟨u41, hs41⟩, ⟨u42, hs42⟩, ⟨u43, hs43⟩, ⟨u44, hs44⟩, ⟨u45, hs45⟩, ⟨u46, hs46⟩, ⟨u47, hs47⟩, ⟨u48, hs48⟩, ⟨u49, hs49⟩, ⟨u50, hs50⟩, ⟨u51, hs51⟩, ⟨u52, hs52⟩, ⟨u53, hs53⟩, ⟨u54, hs54⟩, ⟨u55, hs55⟩, _⟩ := Fg.slotvs qa [40, 41, 42, 43, 44, 45, 46, 47, 48, 49, 50, 51, 52, 53, 54, 55]
      obtain rfl := Fg.frame_by [6, 40, 41, 42, 43, 44, 45, 46, 47, 48, 49, 50, 51, 52, 53, 54, 55] (vs := [Value.slice a n cap, Value.slice sa 64 sc, Value.slice bt mt ct, undef, undef, undef, Value.bool bb, Value.slice sF 32 (sc - 32), Value.pointer (some ⟨N8, 0, none⟩), Value.bool true, Value.pointer (some ⟨N10, 0, none⟩), Value.bool true, Value.slice (some ⟨gk, 0, none⟩) 32 32, u13, u14, u15, u16, u17, u18, u19, u20, u21, u22, u23, u24, u25, u26, u27, u28, u29, u30, u31, u32, u33, u34, u35, u36, u37, u38, Value.bool false, u40, u41, u42, u43, u44, u45, u46, u47, u48, u49, u50, u51, u52, u53, u54, u55]) hsz hrest (by kernel_rfl) rfl rfl ⟨(show qa.tmps.getD 6 undef = Value.bool bb from hslots 6 (by kernel_rfl)), hs40, hs41, hs42, hs43, hs44, hs45, hs46, hs47, hs48, hs49, hs50, hs51, hs52, hs53, hs54, hs55, trivial⟩ hdf
      clear hsz hdf hrest hslots hpt hs40 hs41 hs42 hs43 hs44 hs45 hs46 hs47 hs48 hs49 hs50 hs51 hs52 hs53 hs54 hs55
      replace hb8 := hb8.gn g4
      replace hb10 := hb10.gn g4
      replace hZ := hZ.gn g4
      replace hbk := hbk.gn g4
      replace G := gb_trans G g4
      replace HT := HT.grown g4
      clear g4
      go_wp2_with fail
      go_ret
      exact ⟨bb, rfl, G, ver_iff hl32 hA.on eA hR.on eR (of_decide_eq_true hq) (by rw [← HK.out]; exact hbb)⟩
set_option maxRecDepth 100000 in
theorem verify_no (n cap m c mt ct : Nat) (a sa bt : Option Addr) (w0 : World) (hm : m ≠ 64) : Calls Tryz.prog 8 #[.slice a n cap, .slice sa m c, .slice bt mt ct] w0 fun e w' => e = .returned (.bool false) ∧ w0.grownBy w' none := by
 go_enter Tryz.func8, Tryz.ntmps8
 have i0 : ¬ (m : Int) = 64 := by omega
 go_wp2
 go_ret
 exact ⟨rfl, gb_refl _ _⟩
end
namespace Ed
open Num
structure Fr where
  X : F
  Y : F
  Z : F
structure FrIs (s : Fr) (p : Pr) : Prop where
  on : On p
  z : s.Z ≠ 0
  x : s.X = s.Z * p.x
  y : s.Y = s.Z * p.y
def frAdd (s t : Fr) : Fr :=
  ⟨(s.Z * t.Z) * (((s.Z * t.Z) * (s.Z * t.Z) - d * ((s.X * t.X) * (s.Y * t.Y))) * (s.X * t.Y + t.X * s.Y)),
   (s.Z * t.Z) * (((s.Z * t.Z) * (s.Z * t.Z) + d * ((s.X * t.X) * (s.Y * t.Y))) * (s.X * t.X + s.Y * t.Y)),
   ((s.Z * t.Z) * (s.Z * t.Z) - d * ((s.X * t.X) * (s.Y * t.Y))) * ((s.Z * t.Z) * (s.Z * t.Z) + d * ((s.X * t.X) * (s.Y * t.Y)))⟩
section
variable {n : Nat} [NeZero n]
theorem f_1 (d X Y Z x y X' Y' Z' x' y' : Fin n) (hX : X = Z * x) (hY : Y = Z * y) (hX' : X' = Z' * x') (hY' : Y' = Z' * y') :
    (Z * Z') * (Z * Z') - d * ((X * X') * (Y * Y')) = (Z * Z') * (Z * Z') * (1 - d * (x*x'*y*y')) ∧ (Z * Z') * (Z * Z') + d * ((X * X') * (Y * Y')) = (Z * Z') * (Z * Z') * (1 + d * (x*x'*y*y')) ∧ X * Y' + X' * Y = (Z * Z') * (x*y' + x'*y) ∧ X * X' + Y * Y' = (Z * Z') * (y*y' + x*x') := by grind
theorem f_2 (A m l c x : Fin n) (h : m * x = c) : A * ((A * A * l) * (A * c)) = (A * A * l) * (A * A * m) * x := by grind
theorem f_3 (A m l c y : Fin n) (h : l * y = c) : A * ((A * A * m) * (A * c)) = (A * A * l) * (A * A * m) * y := by grind
end
theorem frAddIs {s t : Fr} {p q : Pr} (h : FrIs s p) (k : FrIs t q) : FrIs (frAdd s t) (add p q) := by
  obtain ⟨h1, h2, h3, h4⟩ := f_1 d _ _ _ _ _ _ _ _ _ _ h.x h.y k.x k.y
  have nz := mul_ne h.z k.z
  have n1 := mul_ne (mul_ne nz nz) (minus_ne h.on k.on)
  have n2 := mul_ne (mul_ne nz nz) (plus_ne h.on k.on)
  have ax := add_x h.on k.on
  have ay := add_y h.on k.on
  unfold tt at n1 n2 ax ay
  refine ⟨add_on h.on k.on, ?_, ?_, ?_⟩
  · unfold frAdd; dsimp only; rw [h1, h2]; exact mul_ne n1 n2
  · unfold frAdd; dsimp only; rw [h1, h2, h3]; exact f_2 _ _ _ _ _ ax
  · unfold frAdd; dsimp only; rw [h1, h2, h4]; exact f_3 _ _ _ _ _ ay
theorem frEq {s t : Fr} {p q : Pr} (h : FrIs s p) (k : FrIs t q) : (s.X * t.Z = t.X * s.Z ∧ s.Y * t.Z = t.Y * s.Z) ↔ p = q := by
  rw [e_9 h.x k.x, e_9 h.y k.y]
  have hz := mul_ne h.z k.z
  exact ⟨fun ⟨h1, h2⟩ => ext (cancel hz h1) (cancel hz h2), fun e => by rw [e]; exact ⟨rfl, rfl⟩⟩
def numH (l : List Bool) : Nat := l.foldl (fun n b => 2 * n + b.toNat) 0
theorem numH_snoc (l : List Bool) (b : Bool) : numH (l ++ [b]) = 2 * numH l + b.toNat := by simp [numH]
def ladF (p : Fr) (l : List Bool) : Fr := l.foldl (fun s b => if b then frAdd (frAdd s s) p else frAdd s s) ⟨0, 1, 1⟩
theorem zeroFr : FrIs ⟨0, 1, 1⟩ zero := ⟨zero_on, one_ne, e_7.1, e_7.2.1⟩
theorem nmul_dbl {p : Pr} (hp : On p) (k : Nat) : add (nmul k p) (nmul k p) = nmul (2 * k) p := by rw [Nat.two_mul, nmul_add hp]
theorem ladIs {s : Fr} {p : Pr} (h : FrIs s p) (l : List Bool) : FrIs (ladF s l) (nmul (numH l) p) := by
  have gen : ∀ (l : List Bool) (t : Fr) (k : Nat), FrIs t (nmul k p) → FrIs (l.foldl (fun s' b => if b then frAdd (frAdd s' s') s else frAdd s' s') t) (nmul (l.foldl (fun n b => 2 * n + b.toNat) k) p) := by
    intro l
    induction l with
    | nil => intro t k ht; exact ht
    | cons b r ih =>
      intro t k ht
      have h2 := frAddIs ht ht
      rw [nmul_dbl h.on] at h2
      cases b
      · exact ih _ _ (by simpa using h2)
      · refine ih _ _ ?_
        have h3 := frAddIs h2 h
        exact h3
  exact gen l ⟨0, 1, 1⟩ 0 zeroFr
structure N3 where
  x : Nat
  y : Nat
  z : Nat
def N3.f (a : N3) : Fr := ⟨Fin.ofNat _ a.x, Fin.ofNat _ a.y, Fin.ofNat _ a.z⟩
def force {α : Type} (n : Nat) (k : Nat → α) : α := Nat.rec (k 0) (fun m _ => k (m + 1)) n
theorem force_is {α : Type} (n : Nat) (k : Nat → α) : force n k = k n := by cases n <;> rfl
def addN (s t : N3) (k : N3 → N3) : N3 :=
  force (s.z * t.z % Fe.P) fun a => force (a * a % Fe.P) fun b => force (s.x * t.x % Fe.P) fun c => force (s.y * t.y % Fe.P) fun e =>
  force (dN * (c * e) % Fe.P) fun f => force (b + (Fe.P - f)) fun l => force (b + f) fun m => force (a * (l * (s.x * t.y + t.x * s.y)) % Fe.P) fun x =>
  force (a * (m * (c + e)) % Fe.P) fun y => force (l * m % Fe.P) fun z => k ⟨x, y, z⟩
def ladN (p : N3) : List Bool → N3 → N3
  | [], s => s
  | b :: r, s => addN s s fun s2 => if b then addN s2 p (ladN p r) else ladN p r s2
theorem ofNat_mod (a : Nat) : (Fin.ofNat Fe.P (a % Fe.P)) = Fin.ofNat Fe.P a := Fin.ext (by simp)
theorem ofNat_mul (a b : Nat) : (Fin.ofNat Fe.P (a * b)) = Fin.ofNat Fe.P a * Fin.ofNat Fe.P b := Fin.ext (by simp [Fin.val_mul])
theorem ofNat_add (a b : Nat) : (Fin.ofNat Fe.P (a + b)) = Fin.ofNat Fe.P a + Fin.ofNat Fe.P b := Fin.ext (by simp [Fin.val_add])
theorem sub_of' {n : Nat} [NeZero n] {x y z : Fin n} (h : x + y = z) : x = z - y := by grind
theorem ofNat_sub {a : Nat} (h : a < Fe.P) (b : Nat) : (Fin.ofNat Fe.P (b + (Fe.P - a))) = Fin.ofNat Fe.P b - Fin.ofNat Fe.P a := by
  apply sub_of'
  rw [← ofNat_add, show b + (Fe.P - a) + a = b + Fe.P by omega]
  exact Fin.ext (by simp)
theorem ofNat_d : Fin.ofNat Fe.P dN = d := by decide +kernel
theorem addN_is (s t : N3) (k : N3 → N3) : ∃ u, addN s t k = k u ∧ u.f = frAdd s.f t.f := by
  unfold addN
  simp only [force_is]
  refine ⟨_, rfl, ?_⟩
  have hl : dN * (s.x * t.x % Fe.P * (s.y * t.y % Fe.P)) % Fe.P < Fe.P := Nat.mod_lt _ (Nat.pos_of_ne_zero P_ne)
  unfold N3.f frAdd
  simp only [ofNat_mod, ofNat_mul, ofNat_sub hl, ofNat_add, ofNat_d]
theorem ladN_is (p : N3) : ∀ (l : List Bool) (s : N3), (ladN p l s).f = l.foldl (fun s' b => if b then frAdd (frAdd s' s') p.f else frAdd s' s') s.f := by
  intro l
  induction l with
  | nil => intro s; rfl
  | cons b r ih =>
    intro s
    obtain ⟨u, hu, hf⟩ := addN_is s s fun s2 => if b then addN s2 p (ladN p r) else ladN p r s2
    show (addN s s fun s2 => if b then addN s2 p (ladN p r) else ladN p r s2).f = _
    rw [hu]
    cases b
    · rw [List.foldl_cons, ← hf]; exact ih u
    · obtain ⟨v, hv, hg⟩ := addN_is u p (ladN p r)
      rw [List.foldl_cons, if_pos rfl, if_pos rfl, ← hf, ← hg, hv]; exact ih v
def bitsH : Nat → Nat → List Bool
  | 0, _ => []
  | k + 1, n => bitsH k (n / 2) ++ [n % 2 == 1]
theorem numH_bits : ∀ k n, n < 2 ^ k → numH (bitsH k n) = n := by
  intro k
  induction k with
  | zero => intro n h; have : n = 0 := by simpa using h
            subst this; rfl
  | succ k ih =>
    intro n h
    rw [bitsH, numH_snoc, ih (n / 2) (by rw [Nat.pow_succ] at h; omega)]
    rcases Nat.mod_two_eq_zero_or_one n with e | e <;> rw [e] <;> simp <;> omega
def Lo : Nat := 7237005577332262213973186563042994240857116359379907606001950938285454250989
def baseN : N3 := ⟨15112221349535400772501151409588531511454012693041857206046113283949847762202, 46316835694926478169428394003475163141307993866256225615783033603165251855960, 1⟩
theorem baseN_f : baseN.f = ⟨baseR.x, baseR.y, 1⟩ := by
  have h1 : Fin.ofNat Fe.P baseN.x = baseR.x := by decide +kernel
  have h2 : Fin.ofNat Fe.P baseN.y = baseR.y := by decide +kernel
  show (⟨_, _, _⟩ : Fr) = _
  rw [h1, h2]
  congr 1
theorem baseFr : FrIs ⟨baseR.x, baseR.y, 1⟩ baseR := ⟨base_on, one_ne, e_10 _ _ rfl, e_10 _ _ rfl⟩
def isZeroN (a : N3) : Bool := a.x % Fe.P == 0 && a.y % Fe.P == a.z % Fe.P
theorem order_reckoned : isZeroN (ladN baseN (bitsH 253 Lo) ⟨0, 1, 1⟩) = true := by decide +kernel
theorem order_base : nmul Lo baseR = zero := by
  have h := ladIs baseFr (bitsH 253 Lo)
  rw [numH_bits 253 Lo (by decide +kernel)] at h
  have e := ladN_is baseN (bitsH 253 Lo) ⟨0, 1, 1⟩
  rw [baseN_f] at e
  have ez : (⟨0, 1, 1⟩ : N3).f = (⟨0, 1, 1⟩ : Fr) := rfl
  rw [ez] at e
  have e2 : ladF ⟨baseR.x, baseR.y, 1⟩ (bitsH 253 Lo) = (ladN baseN (bitsH 253 Lo) ⟨0, 1, 1⟩).f := e.symm
  rw [e2] at h
  have hz := order_reckoned
  generalize ladN baseN (bitsH 253 Lo) ⟨0, 1, 1⟩ = r at *
  unfold isZeroN at hz
  simp only [Bool.and_eq_true, beq_iff_eq] at hz
  apply (frEq h zeroFr).1
  have hx : r.f.X = 0 := Fin.ext (by show r.x % Fe.P = _; rw [hz.1]; exact zero_val.symm)
  have hy : r.f.Y = r.f.Z := Fin.ext hz.2
  rw [hx, hy]
  exact ⟨f_5 _, f_6 _⟩
where
  f_5 {n : Nat} [NeZero n] (z : Fin n) : 0 * 1 = 0 * z := by grind
  f_6 {n : Nat} [NeZero n] (z : Fin n) : z * 1 = 1 * z := by grind
theorem nmul_base_mod (a : Nat) : nmul a baseR = nmul (a % Lo) baseR := by
  have h : a = Lo * (a / Lo) + a % Lo := (Nat.div_add_mod a Lo).symm
  have e : nmul a baseR = nmul (Lo * (a / Lo) + a % Lo) baseR := congrArg (fun n => nmul n baseR) h
  rw [e, nmul_add base_on, nmul_mul base_on, order_base, nmul_zero, zero_add (nmul_on base_on _)]
end Ed
section
open Go.RowKit Ow Ed
theorem L_Lo : Sc.L = Lo := by decide +kernel
theorem ver_math (k s r : Nat) : Ed.add (nmul k (Ed.neg (nmul s baseR))) (nmul ((k * s + r) % Sc.L) baseR) = nmul r baseR := by
 have hA := nmul_on base_on s
 have hN := neg_on hA
 have h0 : Ed.add (nmul k (Ed.neg (nmul s baseR))) (nmul k (nmul s baseR)) = zero := by
  rw [← nmul_sum hN hA, Ed.add_comm, add_neg hA, nmul_zero]
 rw [L_Lo, ← nmul_base_mod, nmul_add base_on, Nat.mul_comm k s, nmul_mul base_on, ← add_assoc (nmul_on hN k) (nmul_on hA k) (nmul_on base_on r), h0, zero_add (nmul_on base_on r)]
theorem sgS_num (l m : List Nat) : num (sgS l m) = (num (sgk l m) * num (secL l) + num (sgr l m)) % Sc.L := scB_num _
theorem sgS_len (l m : List Nat) : (sgS l m).length = 32 := scB_length _
theorem sgL_len (l m : List Nat) : (sgL l m).length = 64 := by unfold sgL; rw [List.length_append, digL_len, sgS_len]
theorem sgL_take (l m : List Nat) : (sgL l m).take 32 = digL (enc (sgR l m)) := by
 unfold sgL
 rw [List.take_left' (digL_len _)]
theorem sgL_drop (l m : List Nat) : (sgL l m).drop 32 = sgS l m := by
 unfold sgL
 rw [List.drop_left' (digL_len _)]
theorem sgL_lt (l m : List Nat) (i : Nat) : (sgL l m).getD i 0 < 256 := by
 unfold sgL
 by_cases h : i < 32
 ·rw [List.getD_eq_getElem?_getD, List.getElem?_append_left (by rw [digL_len]; exact h), ← List.getD_eq_getElem?_getD]
  exact digL_lt _ i
 ·rw [List.getD_eq_getElem?_getD, List.getElem?_append_right (by rw [digL_len]; omega), ← List.getD_eq_getElem?_getD]
  exact scB_lt _ _
theorem sgA_on (l : List Nat) : On (sgA l) := nmul_on base_on _
theorem sgR_on (l m : List Nat) : On (sgR l m) := nmul_on base_on _
theorem ver_sign (l m : List Nat) : VerP (digL (enc (sgA l))) (sgL l m) m := by
 refine ⟨digL_len _, sgA l, sgR l m, sgA_on l, (num_digL (enc_bd _).1 (enc_bd _).2).symm, sgR_on l m, ?_, ?_, ?_⟩
 ·rw [sgL_take]; exact (num_digL (enc_bd _).1 (enc_bd _).2).symm
 ·rw [sgL_drop, sgS_num]; exact Nat.mod_lt _ (by decide +kernel)
 ·rw [sgL_drop, sgL_take, sgS_num]
  exact ver_math _ _ _
end
section
open Go.RowKit Ow Ed
def sd0 : List Nat := [0x9d, 0x61, 0xb1, 0x9d, 0xef, 0xfd, 0x5a, 0x60, 0xba, 0x84, 0x4a, 0xf4, 0x92, 0xec, 0x2c, 0xc4, 0x44, 0x49, 0xc5, 0x69, 0x7b, 0x32, 0x69, 0x19, 0x70, 0x3b, 0xac, 0x03, 0x1c, 0xae, 0x7f, 0x60]
theorem sd0_lt : ∀ i, sd0.getD i 0 < 256 := fun i => by
 rw [List.getD_eq_getElem?_getD]
 cases e : sd0[i]? with
 | none => decide
 | some x => exact of_decide_eq_true (List.all_eq_true.1 (by decide +kernel : sd0.all (· < 256) = true) x (List.mem_of_getElem? e))
theorem sec0 : num (secL sd0) = 36144925721603087658594284515452164870581325872720374094707712194495455132720 := by
 unfold secL
 rw [Sha.sum_one sd0 (by decide +kernel)]
 decide +kernel
def pre0 : List Nat := [155, 79, 10, 254, 40, 11, 116, 106, 119, 134, 132, 231, 84, 66, 80, 32, 87, 183, 71, 58, 3, 240, 143, 150, 245, 163, 142, 146, 135, 224, 31, 143]
theorem pre0_is : preL sd0 = pre0 := by
 unfold preL
 rw [Sha.sum_one sd0 (by decide +kernel)]
 decide +kernel
theorem r0 : num (sgr sd0 []) = 2015312323900227545039973048451112962192803170366412514267238242679089760755 := by
 unfold sgr
 rw [pre0_is, scB_num, Sha.sum_one (pre0 ++ []) (by decide +kernel)]
 decide +kernel
def isAt (a : N3) (x y : Nat) : Bool := a.x % Fe.P == x * a.z % Fe.P && a.y % Fe.P == y * a.z % Fe.P
theorem base_is (n x y : Nat) (hn : n < 2 ^ 256) (hx : x < Fe.P) (hy : y < Fe.P) (hon : On ⟨⟨x, hx⟩, ⟨y, hy⟩⟩) (h : isAt (ladN baseN (bitsH 256 n) ⟨0, 1, 1⟩) x y = true) : nmul n baseR = ⟨⟨x, hx⟩, ⟨y, hy⟩⟩ := by
 have h1 := ladIs baseFr (bitsH 256 n)
 rw [numH_bits 256 n hn] at h1
 have e := ladN_is baseN (bitsH 256 n) ⟨0, 1, 1⟩
 rw [baseN_f] at e
 have ez : (⟨0, 1, 1⟩ : N3).f = (⟨0, 1, 1⟩ : Fr) := rfl
 rw [ez] at e
 have e2 : ladF ⟨baseR.x, baseR.y, 1⟩ (bitsH 256 n) = (ladN baseN (bitsH 256 n) ⟨0, 1, 1⟩).f := e.symm
 rw [e2] at h1
 have h2 : FrIs ⟨⟨x, hx⟩, ⟨y, hy⟩, 1⟩ ⟨⟨x, hx⟩, ⟨y, hy⟩⟩ := ⟨hon, one_ne, e_10 _ _ rfl, e_10 _ _ rfl⟩
 generalize ladN baseN (bitsH 256 n) ⟨0, 1, 1⟩ = r at *
 unfold isAt at h
 simp only [Bool.and_eq_true, beq_iff_eq] at h
 apply (frEq h1 h2).1
 have hX : r.f.X = ⟨x, hx⟩ * r.f.Z := Fin.ext (by
  rw [Fin.val_mul]
  show r.x % Fe.P = x * (r.z % Fe.P) % Fe.P
  rw [h.1, Nat.mul_mod_mod])
 have hY : r.f.Y = ⟨y, hy⟩ * r.f.Z := Fin.ext (by
  rw [Fin.val_mul]
  show r.y % Fe.P = y * (r.z % Fe.P) % Fe.P
  rw [h.2, Nat.mul_mod_mod])
 rw [hX, hY]
 exact ⟨f_7 _, f_7 _⟩
where
 f_7 {n : Nat} [NeZero n] (z : Fin n) : z * 1 = z := by grind
theorem A0_is : sgA sd0 = ⟨⟨38815646466658113194383306759739515082307681141926459231621296960732224964046, by decide +kernel⟩, ⟨11903303657706407974989296177215005343713679411332034699907763981919547054807, by decide +kernel⟩⟩ := by
 unfold sgA
 rw [sec0]
 exact base_is _ _ _ (by decide +kernel) _ _ (by unfold On; decide +kernel) (by decide +kernel)
theorem R0_is : sgR sd0 [] = ⟨⟨44370630452101398467924320556439323233869374150616132215183787387252341590058, by decide +kernel⟩, ⟨38448863731492799660668882834560725606410712239157980760146247592118262650597, by decide +kernel⟩⟩ := by
 unfold sgR
 rw [r0]
 exact base_is _ _ _ (by decide +kernel) _ _ (by unfold On; decide +kernel) (by decide +kernel)
theorem key0 : (digL (enc (sgA sd0))).take 4 = [215, 90, 152, 1] := by rw [A0_is]; decide +kernel
theorem sig0 : (sgL sd0 []).take 4 = [229, 86, 67, 0] := by
 have h : (digL (enc (sgR sd0 []))).take 4 = [229, 86, 67, 0] := by rw [R0_is]; decide +kernel
 unfold sgL
 rw [List.take_append_of_le_length (by rw [digL_len]; decide)]
 exact h
end
section
open Go.RowKit Ow
theorem getD_at (l : List Nat) (i : Nat) (h : i < l.length) : l.getD i 0 = l[i] := by rw [List.getD_eq_getElem?_getD, List.getElem?_eq_getElem h]; rfl
theorem list_same {p q : List Nat} (h : p.length = q.length) (hi : ∀ i, i < p.length → p.getD i 0 = q.getD i 0) : p = q := by
 apply List.ext_getElem h
 intro i h1 h2
 rw [← getD_at p i h1, ← getD_at q i h2]
 exact hi i h1
set_option maxHeartbeats 400000 in
theorem sameBytes_any (B1 B2 n m c1 c2 : Nat) (a1 a2 : Option Addr) (p q : List Nat) (w : World) (hn : p.length = n) (hm : q.length = m) (h1 : BytesAt w B1 a1 c1 p) (h2 : BytesAt w B2 a2 c2 q) :
  Calls Tryz.prog 12 #[.slice a1 n c1, .slice a2 m c2] w fun e w' => e = .returned (.bool (decide (p = q))) ∧ w.grownBy w' none := by
 have hn1 := h1.fits
 have hn2 := h2.fits
 have ht1 := h1.top
 have ht2 := h2.top
 rw [hn] at hn1
 rw [hm] at hn2
 have H1 := Lib.hid h1; clear h1
 have H2 := Lib.hid h2; clear h2
 have HN := Lib.hid hn; clear hn
 have HM := Lib.hid hm; clear hm
 by_cases hnm : n = m
 ·subst hnm
  go_enter Tryz.func12, Tryz.ntmps12
  go_wp2
  go_loopw [5] (fun i wr => ∃ k j : Nat, k ≤ n ∧ i = .int .i64 k ∧ wr = w.drewN j ∧ ∀ i, i < k → p.getD i 0 = q.getD i 0) (fun i _ => n - (intOf i).toNat)
  case atStart => exact ⟨0, 0, by omega, rfl, rfl, fun i hi => absurd hi (by omega)⟩
  case round =>
   obtain ⟨k, j, hk, rfl, rfl, heq⟩ := hrel
   have HE := Lib.hid heq; clear heq
   by_cases hlt : k < n
   ·obtain ⟨pb, po, rfl, _, hc⟩ := H1.out.cells.resolve_left (by rw [HN.out]; omega)
    obtain ⟨qb, qo, rfl, _, hd⟩ := H2.out.cells.resolve_left (by rw [HM.out]; omega)
    have k1 := hc k (by rw [HN.out]; exact hlt)
    have k2 := hd k (by rw [HM.out]; exact hlt)
    unfold u8N at k1 k2
    clear hc hd
    have i0 : (k : Int) < (n : Int) := by omega
    obtain ⟨x, hx⟩ : ∃ x, x = p.getD k 0 := ⟨_, rfl⟩
    obtain ⟨y, hy⟩ : ∃ y, y = q.getD k 0 := ⟨_, rfl⟩
    rw [← hx] at k1
    rw [← hy] at k2
    have HXY := Lib.hid (And.intro hx hy); clear hx hy
    by_cases hxy : x = y
    ·subst hxy
     go_wp2_with fail
     go_quiet (fail)
     go_wp2
     go_roundw
     case rel => exact ⟨k + 1, _, by omega, by go_num, rfl, fun i hi => by
      rcases Nat.lt_or_ge i k with h | h
      ·exact HE.out i h
      ·obtain rfl : i = k := by omega
       rw [← HXY.out.1, ← HXY.out.2]⟩
     case measure => simp [intOf]; omega
    ·have hne : ¬ (x : Int) = (y : Int) := by omega
     have hpq : p ≠ q := fun e => hxy (by rw [HXY.out.1, HXY.out.2, e])
     have HPQ : Hid (decide (p = q) = false) := decide_eq_false hpq
     clear hpq hxy
     go_wp2_with fail
     go_quiet (fail)
     go_wp2
     go_ret
     exact ⟨by rw [HPQ.out]; rfl, ⟨rfl, rfl, rfl, Nat.le_refl _, fun _ _ _ => rfl⟩⟩
   ·obtain rfl : k = n := by omega
    have hpq : p = q := list_same (by rw [HN.out, HM.out]) (fun i hi => HE.out i (by rw [HN.out] at hi; exact hi))
    have HPQ : Hid (decide (p = q) = true) := decide_eq_true hpq
    clear hlt hpq
    go_wp2
    go_ret
    exact ⟨by rw [HPQ.out]; rfl, ⟨rfl, rfl, rfl, Nat.le_refl _, fun _ _ _ => rfl⟩⟩
 ·have hne : ¬ (n : Int) = (m : Int) := by omega
  have hpq : p ≠ q := fun e => hnm (by rw [← HN.out, ← HM.out, e])
  have HPQ : Hid (decide (p = q) = false) := decide_eq_false hpq
  clear hpq hnm
  go_enter Tryz.func12, Tryz.ntmps12
  go_wp2
  go_ret
  exact ⟨by rw [HPQ.out]; rfl, gb_refl _ _⟩
end
section
open Go.RowKit Ow
theorem own_row {w : World} {base e n g c : Nat} {xs : List Value} (h : w.ownsRow base e 1 (.slice (some ⟨g, 0, none⟩) n c) n xs) : ∃ tl, Blk w g e (xs ++ tl) ∧ base ≤ g ∧ n ≤ c ∧ c < 9223372036854775808 := by
 rcases h.2 with ⟨h0, _⟩ | ⟨g', c', cur, e1, hb, hg, hnc, hcm, hs, ht⟩
 ·cases h0
 ·cases e1
  refine ⟨cur.toList.drop xs.length, ?_, hb, hnc, by unfold maxLen at hcm; omega⟩
  have hl : xs.length = n := by have := h.1; omega
  have e : xs ++ cur.toList.drop xs.length = cur.toList := by
   have h2 := List.take_append_drop n cur.toList
   rw [hl]
   rw [show cur.toList.take n = xs by simpa using ht] at h2
   exact h2
  rw [e]
  unfold Blk
  rw [hg]
end
section
open Go.RowKit Ow Go.Shelf Ed
theorem seed0_any (w : World) : Calls Tryz.prog 13 #[] w fun e w' => ∃ g : Nat, e = .returned (.slice (some ⟨g, 0, none⟩) 32 32) ∧ w.grownBy w' none ∧ w.heap.size ≤ g ∧ Blk w' g 5 (sd0.map u8N) := by
 go_enter Tryz.func13, Tryz.ntmps13
 go_wp2
 go_ret
 exact ⟨w.heap.size, rfl, gb_alloc (gb_refl _ _) _, Nat.le_refl _, Blk.new w (sd0.map u8N) _⟩
set_option maxHeartbeats 1000000 in
theorem begins_yes (n k c1 c2 B1 B2 : Nat) (a1 a2 : Option Addr) (l q : List Nat) (w : World) (hn : l.length = n) (hk : q.length = k) (hkn : k ≤ n) (hP : BytesAt w B1 a1 c1 l) (hQ : BytesAt w B2 a2 c2 q) (h : l.take k = q) :
  Calls Tryz.prog 14 #[.slice a1 n c1, .int .i64 (n : Int), .slice a2 k c2] w fun e w' => e = .returned (.bool true) ∧ w.grownBy w' none := by
 have hf := hP.fits
 obtain ⟨a', hrun, ha'⟩ := slice_to a1 n c1 k (by omega)
 have HP := Lib.hid (And.intro hn (And.intro (bytes_take (k := k) hP ha') (And.intro hQ (And.intro hk h)))); clear hP hQ h ha' hn hk hf
 go_enter Tryz.func14, Tryz.ntmps14
 go_wp2_with fail
 refine (sameBytes_any B1 B2 k k c1 c2 a' a2 (l.take k) q w (by rw [List.length_take, HP.out.1]; omega) HP.out.2.2.2.1 HP.out.2.1 HP.out.2.2.1).mono ?_
 rintro e w1 ⟨rfl, g1⟩
 have e1 : decide (l.take k = q) = true := decide_eq_true HP.out.2.2.2.2
 rw [e1]
 have HG := Lib.hid g1; clear g1 e1
 go_wp2
 go_ret
 exact ⟨rfl, HG.out⟩
theorem four_bytes (w : World) (b0 b1 b2 b3 : Nat) (h0 : b0 < 256) (h1 : b1 < 256) (h2 : b2 < 256) (h3 : b3 < 256) :
  BytesAt (w.alloc (.cells #[.int .u8 (b0 : Int), .int .u8 (b1 : Int), .int .u8 (b2 : Int), .int .u8 (b3 : Int)] 5)) (w.heap.size + 1) (some ⟨w.heap.size, 0, none⟩) 4 [b0, b1, b2, b3] :=
 blk_bytes (tl := []) (Blk.new w [u8N b0, u8N b1, u8N b2, u8N b3] _) rfl (Nat.le_refl _) (by omega) (fun i => by
  match i with
  | 0 => exact h0
  | 1 => exact h1
  | 2 => exact h2
  | 3 => exact h3
  | i + 4 => simp) (by simp) (by simp)
set_option maxHeartbeats 4000000 in
theorem awake5_any (w : World) (HO : OTab w) (HT : ETab w) (HS : Tables w) : Calls Tryz.prog 4 #[] w fun e w' => e = .returned (.bool true) ∧ w.grownBy w' none := by
 have HH := Lib.hid (And.intro HO (And.intro HT HS)); clear HO HT HS
 go_enter Tryz.func4, Tryz.ntmps4
 go_wp2_with fail
 refine (seed0_any w).mono ?_
 rintro e w1 ⟨g1, rfl, ga, _, hb1⟩
 have H1 := Lib.hid (And.intro ga hb1); clear ga hb1
 go_wp2_with fail
 refine (pub_any sd0 32 w1.heap.size (some ⟨g1, 0, none⟩) w1 (HH.out.2.1.grown H1.out.1) (HH.out.2.2.kept H1.out.1 (fun b e => by cases e)) rfl (Lib.hid (rowB0 H1.out.2 rfl sd0_lt))).mono ?_
 rintro e w2 ⟨gp, rfl, ga, _, hbp⟩
 have H2 := Lib.hid (And.intro (gb_trans H1.out.1 ga) hbp); clear ga hbp H1
 go_wp2_with fail
 refine (seed0_any w2).mono ?_
 rintro e w3 ⟨g3, rfl, ga, _, hb3⟩
 have H3 := Lib.hid (And.intro (gb_trans H2.out.1 ga) (And.intro (H2.out.2.grown ga (by simp)) hb3)); clear ga hb3 H2
 go_wp2_with fail
 refine (sign_any sd0 32 w3.heap.size 0 0 w3.heap.size (some ⟨g3, 0, none⟩) none [] w3 (HH.out.1.kept H3.out.1 (fun b e => by cases e)) (HH.out.2.1.grown H3.out.1) (HH.out.2.2.kept H3.out.1 (fun b e => by cases e)) rfl (Lib.hid (rowB0 H3.out.2.2 rfl sd0_lt)) rfl (Lib.hid (parts0 _ _ _ _)) (by decide) (by simp [joined])).mono ?_
 rintro e w4 ⟨gs, c, rfl, ga, _, hos⟩
 obtain ⟨tl, hbs, _, h64, hc63⟩ := own_row hos
 have H4 := Lib.hid (And.intro (gb_trans H3.out.1 ga) (And.intro (H3.out.2.1.grown ga (by simp)) hbs)); clear ga hbs hos H3
 have hc64 := Lib.hid (And.intro h64 hc63); clear h64 hc63
 go_wp2_with fail
 have q1 := four_bytes w4 215 90 152 1 (by decide) (by decide) (by decide) (by decide)
 have gz := gb_alloc (gb_refl w4 none) (.cells #[.int .u8 (215 : Nat), .int .u8 (90 : Nat), .int .u8 (152 : Nat), .int .u8 (1 : Nat)] 5)
 refine (begins_yes 32 4 32 4 _ _ (some ⟨gp, 0, none⟩) _ (digL (enc (sgA sd0))) [215, 90, 152, 1] _ (digL_len _) rfl (by decide) ((digB H4.out.2.1).stay gz) q1 key0).mono ?_
 rintro e w5 ⟨rfl, ga⟩
 have H5 := Lib.hid (gb_trans gz ga); clear gz ga q1
 go_wp2_with fail
 have q1 := four_bytes w5 229 86 67 0 (by decide) (by decide) (by decide) (by decide)
 have gz := gb_alloc H5.out (.cells #[.int .u8 (229 : Nat), .int .u8 (86 : Nat), .int .u8 (67 : Nat), .int .u8 (0 : Nat)] 5)
 refine (begins_yes 64 4 c 4 _ _ (some ⟨gs, 0, none⟩) _ (sgL sd0 []) [229, 86, 67, 0] _ (sgL_len _ _) rfl (by decide) ((blk_bytes H4.out.2.2 (sgL_len _ _) hc64.out.1 hc64.out.2 (sgL_lt _ _) H4.out.2.2.lt (Nat.le_refl _)).stay gz) q1 sig0).mono ?_
 rintro e w6 ⟨rfl, ga⟩
 have H6 := Lib.hid (gb_trans gz ga); clear gz ga q1 H5
 go_wp2_with fail
 have G6 := gb_trans H4.out.1 H6.out
 refine (verify_any (digL (enc (sgA sd0))) (sgL sd0 []) 32 32 w4.heap.size c w4.heap.size 0 0 w6.heap.size (some ⟨gp, 0, none⟩) (some ⟨gs, 0, none⟩) none [] w6 (HH.out.1.kept G6 (fun b e => by cases e)) (HH.out.2.1.grown G6) (HH.out.2.2.kept G6 (fun b e => by cases e)) (digL_len _) (by decide) (Lib.hid ((digB H4.out.2.1).stay H6.out)) (sgL_len _ _) (Lib.hid ((blk_bytes H4.out.2.2 (sgL_len _ _) hc64.out.1 hc64.out.2 (sgL_lt _ _) H4.out.2.2.lt (Nat.le_refl _)).stay H6.out)) rfl (Lib.hid (parts0 _ _ _ _)) (by decide) (by simp [joined])).mono ?_
 rintro e w7 ⟨b, rfl, ga, hv⟩
 obtain rfl : b = true := hv.2 (ver_sign _ _)
 have H7 := Lib.hid (gb_trans G6 ga); clear ga hv G6
 obtain ⟨sT, hT, _⟩ := slice_to (some ⟨gs, 0, none⟩) 64 c 63 (by have := hc64.out.1; omega)
 have hT' : ∀ w, (Instr.slice 22 (.slice (some ⟨gs, 0, none⟩) 64 c) none (some (.int .i64 63)) none).run Tryz.prog w = .ok (.slice sT 63 c) w := hT
 clear hT
 go_wp2_with fail
 refine (verify_no 32 32 63 c 0 0 _ sT none w7 (by decide)).mono ?_
 rintro e w8 ⟨rfl, ga⟩
 have H8 := Lib.hid (gb_trans H7.out ga); clear ga hT'
 go_wp2
 go_ret
 exact ⟨rfl, H8.out⟩
end
section
open Go.RowKit Ow
set_option maxRecDepth 100000 in
set_option maxHeartbeats 4000000 in
theorem seed_any (B len cap : Nat) (a : Option Addr) (l : List Nat) (w : World) (hl : l.length = len) (hP : BytesAt w B a cap l) :
  Calls Tryz.prog 5 #[.slice a len cap] w fun e w' => ∃ l' : List Nat, l'.length = 32 ∧ (∀ i, l'.getD i 0 < 256) ∧ OutB l' w e w' := by
 obtain ⟨w1, hmk, hg1, hs1, hb1⟩ := make_bytes 32 32 w (Nat.le_refl _) (by omega)
 have hmk' : (Instr.makeSlice 22 (.int .i64 32) (.int .i64 32)).run Tryz.prog w = .ok (.slice (some ⟨w.heap.size, 0, none⟩) 32 32) w1 := hmk
 clear hmk
 have HS := Lib.hid (And.intro hg1 hb1); clear hg1 hb1
 have HP := Lib.hid hP; clear hP
 have HL := Lib.hid hl; clear hl
 go_enter Tryz.func5, Tryz.ntmps5
 go_wp2
 clear hmk'
 go_loopw [4] (fun v wr => ∃ (i : Nat) (c : List Nat), i ≤ len ∧ i ≤ 100 ∧ v = .int .i64 i ∧ c.length = 32 ∧ (∀ i, c.getD i 0 < 256) ∧ w.grownBy wr none ∧ Blk wr w.heap.size 5 (c.map u8N)) (fun v _ => 100 - (intOf v).toNat)
 case atStart => exact ⟨0, List.replicate 32 0, by omega, by omega, rfl, by simp, fun i => by rw [List.getD_eq_getElem?_getD, List.getElem?_replicate]; split <;> simp, HS.out.1, by simpa using HS.out.2⟩
 case round =>
  clear HS
  obtain ⟨i, c, hi, hi2, rfl, hcl, hcb, hg, hb⟩ := hrel
  by_cases hil : i < len
  ·have i0 : (i : Int) < len := by omega
   by_cases hi3 : i < 100
   ·have i1 : (i : Int) < 100 := by omega
    have hr := rem32 i
    obtain ⟨pb, po, rfl, hpb, hpc⟩ := HP.out.cells.resolve_left (by rw [HL.out]; omega)
    have hne : pb ≠ w.heap.size := by have := HP.out.lim; omega
    have c1 := (gb_cell hg (p := ⟨pb, po + i, none⟩) (show pb < _ from Nat.lt_of_lt_of_le hpb HP.out.lim) (by simp)).trans (hpc i (by rw [HL.out]; exact hil))
    obtain ⟨k, hk⟩ : ∃ k, k = i % 32 := ⟨_, rfl⟩
    have hk32 : k < 32 := by omega
    rw [← hk] at hr
    have c2 := hb.cell (u8_getD (l := c) (i := k) (by omega))
    have f2 := hb.free k
    obtain ⟨x, hx, hxo⟩ := xor_bytes (c.getD k 0) (l.getD i 0) (hcb k) (HP.out.byte i)
    unfold u8N at c1 c2
    generalize c.getD k 0 = cv at *
    generalize l.getD i 0 = lv at *
    clear hpc hk
    have hb2 := hb.set k (u8N x)
    rw [set_u8] at hb2
    have hg2 := gb_set_new hg (p := ⟨w.heap.size, k, none⟩) (Nat.le_refl _) (u8N x)
    have hcb2 : ∀ j, (c.set k x).getD j 0 < 256 := fun j => set_lt c k x hcb hx j
    unfold u8N at hb2 hg2
    have HN := Lib.hid (And.intro hb2 (And.intro hg2 (And.intro hcb2 (And.intro hcl hi)))); clear hb2 hg2 hcb2 hb hg hcb
    go_upto_region 5 with (fail)
    go_region_with (simp only [hxo])
    all_goals go_wp2
    all_goals go_roundw
    all_goals first
     | exact ⟨i + 1, c.set k x, by omega, by omega, by go_num, by rw [List.length_set]; exact HN.out.2.2.2.1, HN.out.2.2.1, gb_drew HN.out.2.1, HN.out.1⟩
     | (simp [intOf]; omega)
   ·have i1 : ¬ (i : Int) < 100 := by omega
    have HN := Lib.hid (And.intro hb (And.intro hg (And.intro hcb hcl))); clear hb hg hcb hcl
    go_wp2
    go_ret
    exact ⟨c, HN.out.2.2.2, HN.out.2.2.1, w.heap.size, by rw [HN.out.2.2.2]; rfl, HN.out.2.1, Nat.le_refl _, HN.out.1⟩
  ·have i0 : ¬ (i : Int) < len := by omega
   have HN := Lib.hid (And.intro hb (And.intro hg (And.intro hcb hcl))); clear hb hg hcb hcl
   go_wp2
   go_ret
   exact ⟨c, HN.out.2.2.2, HN.out.2.2.1, w.heap.size, by rw [HN.out.2.2.2]; rfl, HN.out.2.1, Nat.le_refl _, HN.out.1⟩
end
section
open Go.RowKit Ow Go.Shelf Ed
theorem sigB {w : World} {g c : Nat} {L : List Nat} {tl : List Value} (hL : L.length = 64) (hb : ∀ i, L.getD i 0 < 256) (h1 : 64 ≤ c) (h2 : c < 9223372036854775808) (h : Blk w g 5 (L.map u8N ++ tl)) : BytesAt w w.heap.size (some ⟨g, 0, none⟩) c L :=
 blk_bytes h hL h1 h2 hb h.lt (Nat.le_refl _)
theorem sign_sig (l m : List Nat) (cap B mt ct Bt : Nat) (a bt : Option Addr) (pt : List Part) (w0 : World) (HO0 : OTab w0) (HT0 : ETab w0) (HS0 : Tables w0) (hl : l.length = 32) (HPB : Hid (BytesAt w0 B a cap l)) (hpt : pt.length = mt) (HPt : Hid (PartsAt w0 Bt bt ct pt)) (hct : ct < 9223372036854775808) (hm : joined pt = m) (hlen : m.length < 1000000) :
  Calls Tryz.prog 7 #[.slice a 32 cap, .slice bt mt ct] w0 fun e w' => ∃ (g c : Nat) (tl : List Value), e = .returned (.slice (some ⟨g, 0, none⟩) 64 c) ∧ w0.grownBy w' none ∧ 64 ≤ c ∧ c < 9223372036854775808 ∧ Blk w' g 5 ((sgL l m).map u8N ++ tl) := by
 subst hm
 refine (sign_any l cap B mt ct Bt a bt pt w0 HO0 HT0 HS0 hl HPB hpt HPt hct hlen).mono ?_
 rintro e w' ⟨g, c, rfl, hg, _, ho⟩
 obtain ⟨tl, hb, _, h1, h2⟩ := own_row ho
 exact ⟨g, c, tl, rfl, hg, h1, h2, hb⟩
theorem ver_yes (l m : List Nat) (g gp c mt ct Bt : Nat) (bt : Option Addr) (pt : List Part) (tl : List Value) (w : World) (HO0 : OTab w) (HT0 : ETab w) (HS0 : Tables w) (hp : Blk w gp 101 ((digL (enc (sgA l))).map u8N)) (h1 : 64 ≤ c) (h2 : c < 9223372036854775808) (h : Blk w g 5 ((sgL l m).map u8N ++ tl)) (hpt : pt.length = mt) (HPt : Hid (PartsAt w Bt bt ct pt)) (hct : ct < 9223372036854775808) (hm : joined pt = m) (hlen : m.length < 1000000) :
  Calls Tryz.prog 8 #[.slice (some ⟨gp, 0, none⟩) 32 32, .slice (some ⟨g, 0, none⟩) 64 c, .slice bt mt ct] w fun e w' => e = .returned (.bool true) ∧ w.grownBy w' none := by
 subst hm
 refine (verify_any (digL (enc (sgA l))) (sgL l (joined pt)) 32 32 _ c _ mt ct Bt _ _ bt pt w HO0 HT0 HS0 (digL_len _) (by decide) (Lib.hid (digB hp)) (sgL_len _ _) (Lib.hid (sigB (sgL_len _ _) (sgL_lt _ _) h1 h2 h)) hpt HPt hct hlen).mono ?_
 rintro e w' ⟨b, rfl, hg, hv⟩
 obtain rfl : b = true := hv.2 (ver_sign _ _)
 exact ⟨rfl, hg⟩
end
namespace Num
theorem l0_prime : Prime 1224481 := prime_trial 1106 (by decide) (by decide) (by decide +kernel)
theorem l1_prime : Prime 531581 := prime_trial 729 (by decide) (by decide) (by decide +kernel)
theorem l2_prime : Prime 1257559732178653 := prime_of (F := 1224481 * 531581) (by decide) (by decide +kernel) fun r hr hd => both l0_prime (by decide +kernel) (step' 1027014492 2 51 1252739704402215 l0_prime (by decide +kernel) (by decide) (by decide +kernel) (by decide +kernel) (by decide +kernel) (by decide +kernel) r hr hd) (step' 2365697292 2 51 1139842034583224 l1_prime (by decide +kernel) (by decide) (by decide +kernel) (by decide +kernel) (by decide +kernel) (by decide +kernel) r hr hd)
theorem l3_prime : Prime 4434155615661930479 := prime_of (F := 1257559732178653) (by decide) (by decide +kernel) fun r hr hd => (step' 3526 2 62 415787812636281767 l2_prime (by decide +kernel) (by decide) (by decide +kernel) (by decide +kernel) (by decide +kernel) (by decide +kernel) r hr hd)
theorem l4_prime : Prime 172054593956031949258510691 := prime_of (F := 4434155615661930479) (by decide) (by decide +kernel) fun r hr hd => (step' 38802110 2 88 81982237619807054769897707 l3_prime (by decide +kernel) (by decide) (by decide +kernel) (by decide +kernel) (by decide +kernel) (by decide +kernel) r hr hd)
theorem l5_prime : Prime 19757330305831588566944191468367130476339 := prime_of (F := 172054593956031949258510691) (by decide) (by decide +kernel) fun r hr hd => (step' 114831751082918 2 134 9148758478138211201771971577098600188172 l4_prime (by decide +kernel) (by decide) (by decide +kernel) (by decide +kernel) (by decide +kernel) (by decide +kernel) r hr hd)
theorem l6_prime : Prime 276602624281642239937218680557139826668747 := prime_of (F := 19757330305831588566944191468367130476339) (by decide) (by decide +kernel) fun r hr hd => (step' 14 2 138 16384 l5_prime (by decide +kernel) (by decide) (by decide +kernel) (by decide +kernel) (by decide +kernel) (by decide +kernel) r hr hd)
theorem l7_prime : Prime 7237005577332262213973186563042994240857116359379907606001950938285454250989 := prime_of (F := 276602624281642239937218680557139826668747) (by decide) (by decide +kernel) fun r hr hd => (step' 26163907866482859529727157400808004 2 253 2975531125133123119648879457563281269120703404158613135195788908093573672641 l6_prime (by decide +kernel) (by decide) (by decide +kernel) (by decide +kernel) (by decide +kernel) (by decide +kernel) r hr hd)
end Num
section
open Go.RowKit Ow Ed
theorem Lo_prime : Num.Prime Lo := Num.l7_prime
theorem add_left {p q r : Pr} (hp : On p) (hq : On q) (hr : On r) (h : Ed.add p q = Ed.add p r) : q = r := by
 have h2 := congrArg (Ed.add (Ed.neg p)) h
 have hn := neg_on hp
 rw [← add_assoc hn hp hq, ← add_assoc hn hp hr, Ed.add_comm (Ed.neg p) p, add_neg hp, zero_add hq, zero_add hr] at h2
 exact h2
theorem base_not : baseR ≠ zero := fun h => absurd (congrArg (fun p => p.y.val) h) (by decide +kernel)
theorem inverse {c : Nat} (h0 : 0 < c) (h : c < Lo) : ∃ m, c * m % Lo = 1 := by
 have hn : ¬ Lo ∣ c := fun hd => by have := Nat.le_of_dvd h0 hd; omega
 have hf := Num.fermat Lo_prime hn
 obtain ⟨e, he⟩ : ∃ e, Lo - 1 = e + 1 := ⟨Lo - 2, by decide +kernel⟩
 rw [he, Nat.pow_succ, Nat.mul_comm] at hf
 exact ⟨c ^ e, hf⟩
theorem not_zero {c : Nat} (h0 : 0 < c) (h : c < Lo) : nmul c baseR ≠ zero := fun hz => by
 obtain ⟨m, hm⟩ := inverse h0 h
 have h1 : nmul (c * m) baseR = zero := by rw [nmul_mul base_on, hz, nmul_zero]
 rw [nmul_base_mod, hm, nmul_one base_on] at h1
 exact base_not h1
theorem base_lt {a b : Nat} (hab : a < b) (hb : b < Lo) : nmul a baseR ≠ nmul b baseR := fun h => by
 have e : b = a + (b - a) := by omega
 rw [e, nmul_add base_on] at h
 have h2 : nmul (b - a) baseR = zero := add_left (nmul_on base_on a) (nmul_on base_on _) zero_on (by rw [← h, add_zero (nmul_on base_on a)])
 exact not_zero (by omega) (by omega) h2
theorem base_inj {a b : Nat} (ha : a < Lo) (hb : b < Lo) (h : nmul a baseR = nmul b baseR) : a = b := by
 rcases Nat.lt_trichotomy a b with k | k | k
 ·exact absurd h (base_lt k hb)
 ·exact k
 ·exact absurd h.symm (base_lt k ha)
theorem leN_inj (f g : Nat → Nat) (hf : ∀ i, f i < 256) (hg : ∀ i, g i < 256) : ∀ n, Sc.leN f n = Sc.leN g n → ∀ i, i < n → f i = g i := by
 intro n
 induction n with
 | zero => intro _ i hi; omega
 | succ n ih =>
  intro h i hi
  change Sc.leN f n + f n * 2 ^ (8 * n) = Sc.leN g n + g n * 2 ^ (8 * n) at h
  have h1 := Sc.leN_lt f hf n
  have h2 := Sc.leN_lt g hg n
  have hm : Sc.leN f n = Sc.leN g n := by
   have := congrArg (· % 2 ^ (8 * n)) h
   simp only [Nat.add_mul_mod_self_right] at this
   rwa [Nat.mod_eq_of_lt h1, Nat.mod_eq_of_lt h2] at this
  have hd : f n = g n := by
   rw [hm] at h
   have h3 : f n * 2 ^ (8 * n) = g n * 2 ^ (8 * n) := by omega
   exact Nat.eq_of_mul_eq_mul_right (Nat.pow_pos (by decide)) h3
  by_cases e : i = n
  ·rw [e]; exact hd
  ·exact ih hm i (by omega)
theorem num_inj {x y : List Nat} (hx : x.length = 32) (hy : y.length = 32) (bx : ∀ i, x.getD i 0 < 256) (by_ : ∀ i, y.getD i 0 < 256) (h : num x = num y) : x = y := by
 unfold num at h
 rw [hx, hy] at h
 have k := leN_inj _ _ bx by_ 32 h
 apply List.ext_getElem (by omega)
 intro i h1 h2
 have := k i (by omega)
 simpa [List.getD_eq_getElem?_getD, List.getElem?_eq_getElem h1, List.getElem?_eq_getElem h2] using this
theorem ver_other (l m y : List Nat) (hy : y.length = 32) (hb : ∀ i, y.getD i 0 < 256) (hL : num y < Sc.L) : VerP (digL (enc (sgA l))) (digL (enc (sgR l m)) ++ y) m ↔ y = sgS l m := by
 have ht : (digL (enc (sgR l m)) ++ y).take 32 = digL (enc (sgR l m)) := List.take_left' (digL_len _)
 have hd : (digL (enc (sgR l m)) ++ y).drop 32 = y := List.drop_left' (digL_len _)
 constructor
 ·rintro ⟨_, A, R, hA, eA, hR, eR, _, h⟩
  rw [ht] at eR h
  rw [hd] at h
  rw [num_digL (enc_bd _).1 (enc_bd _).2] at eA eR
  have e1 : A = sgA l := enc_inj hA (sgA_on l) eA
  have e2 : R = sgR l m := enc_inj hR (sgR_on l m) eR
  rw [e1, e2] at h
  have h2 : Ed.add (nmul (num (sgk l m)) (Ed.neg (sgA l))) (nmul (num (sgS l m)) baseR) = sgR l m := by rw [sgS_num]; exact ver_math _ _ _
  have h3 := add_left (nmul_on (neg_on (sgA_on l)) _) (nmul_on base_on _) (nmul_on base_on _) (h.trans h2.symm)
  have hS : num (sgS l m) < Lo := by rw [sgS_num, L_Lo]; exact Nat.mod_lt _ (by decide +kernel)
  have hy2 : num y < Lo := Nat.lt_of_lt_of_eq hL L_Lo
  have h4 : num y = num (sgS l m) := base_inj hy2 hS h3
  have hb2 : ∀ i, (sgS l m).getD i 0 < 256 := fun i => scB_lt (num (sgk l m) * num (secL l) + num (sgr l m)) i
  exact num_inj hy (sgS_len l m) hb hb2 h4
 ·rintro rfl
  have h := ver_sign l m
  unfold sgL at h
  exact h
theorem ver_more (p m x y : List Nat) (hx : x.length = 32) (hL : Sc.L ≤ num y) : ¬ VerP p (x ++ y) m := fun ⟨_, _, _, _, _, _, _, h, _⟩ => by
 rw [List.drop_left' hx] at h
 omega
def cy (a b i : Nat) : Nat := (a % 2 ^ (8 * i) + b % 2 ^ (8 * i)) / 2 ^ (8 * i)
theorem cy_zero (a b : Nat) : cy a b 0 = 0 := by unfold cy; simp [Nat.mod_one]
theorem add_div_of (x y M : Nat) (hM : 0 < M) : (x + M * y) / M = x / M + y := by rw [Nat.add_mul_div_left _ _ hM]
theorem cy_step (a b i : Nat) : (cy a b i + Sc.byt a i + Sc.byt b i) / 256 = cy a b (i + 1) ∧ (cy a b i + Sc.byt a i + Sc.byt b i) % 256 = Sc.byt (a + b) i := by
 unfold cy Sc.byt
 have hM : 0 < 2 ^ (8 * i) := Nat.pow_pos (by decide)
 have e : 2 ^ (8 * (i + 1)) = 2 ^ (8 * i) * 256 := by rw [Nat.mul_succ, Nat.pow_add]
 rw [e]
 generalize 2 ^ (8 * i) = M at *
 constructor
 ·have hA : a % (M * 256) = a % M + M * (a / M % 256) := Nat.mod_mul
  have hB : b % (M * 256) = b % M + M * (b / M % 256) := Nat.mod_mul
  rw [hA, hB, ← Nat.div_div_eq_div_mul, show a % M + M * (a / M % 256) + (b % M + M * (b / M % 256)) = a % M + b % M + M * (a / M % 256 + b / M % 256) by rw [Nat.mul_add]; omega, add_div_of _ _ _ hM, Nat.add_assoc]
 ·have h : (a + b) / M = a / M + b / M + (a % M + b % M) / M := by
   have ha := Nat.div_add_mod a M
   have hb := Nat.div_add_mod b M
   have h2 : a + b = a % M + b % M + M * (a / M + b / M) := by rw [Nat.mul_add]; omega
   rw [h2, add_div_of _ _ _ hM]
   have h3 : (a % M + b % M + M * (a / M + b / M)) = a + b := by omega
   omega
  rw [h]
  omega
theorem cy_small (a b i : Nat) : cy a b i < 2 := by
 unfold cy
 have hM : 0 < 2 ^ (8 * i) := Nat.pow_pos (by decide)
 have h1 := Nat.mod_lt a hM
 have h2 := Nat.mod_lt b hM
 rw [Nat.div_lt_iff_lt_mul hM]
 omega
theorem byt_num {l : List Nat} (hl : l.length = 32) (hb : ∀ i, l.getD i 0 < 256) (i : Nat) (hi : i < 32) : Sc.byt (num l) i = l.getD i 0 := by
 have h := num_inj (x := bytesN (num l) 32) (y := l) (bytesN_length _ _) hl (bytesN_lt _ _) hb (by
  rw [num_bytesN]
  exact Nat.mod_eq_of_lt (num_256 l hb (by omega)))
 have h2 := bytesN_get (num l) 32 i hi
 rw [h] at h2
 exact h2.symm
def moreL (s : List Nat) (T : Nat) : Nat → List Nat
 | 0 => s
 | i + 1 => (moreL s T i).set (32 + i) (Sc.byt T i)
theorem moreL_len (s : List Nat) (T : Nat) : ∀ i, (moreL s T i).length = s.length
 | 0 => rfl
 | i + 1 => by rw [moreL, List.length_set, moreL_len s T i]
theorem moreL_high (s : List Nat) (T : Nat) : ∀ i j, 32 + i ≤ j → (moreL s T i).getD j 0 = s.getD j 0
 | 0, _, _ => rfl
 | i + 1, j, h => by
  rw [moreL, List.getD_eq_getElem?_getD, List.getElem?_set_ne (by omega), ← List.getD_eq_getElem?_getD]
  exact moreL_high s T i j (by omega)
theorem moreL_all (s : List Nat) (T : Nat) (hs : s.length = 64) : moreL s T 32 = s.take 32 ++ bytesN T 32 := by
 have key : ∀ i, i ≤ 32 → moreL s T i = s.take 32 ++ (bytesN T i ++ s.drop (32 + i)) := by
  intro i
  induction i with
  | zero => intro _; simp [moreL, bytesN]
  | succ i ih =>
   intro hi
   rw [moreL, ih (by omega), List.set_append_right _ _ (by rw [List.length_take, hs]; omega), show 32 + i - (s.take 32).length = i by rw [List.length_take, hs]; omega, List.set_append_right _ _ (by rw [bytesN_length]; omega), bytesN_length, Nat.sub_self, bytesN_succ, List.append_assoc]
   congr 2
   have h1 : s.drop (32 + i) = s[32 + i]'(by omega) :: s.drop (32 + i + 1) := List.drop_eq_getElem_cons (by omega)
   rw [h1, List.set_cons_zero]
   rfl
 have := key 32 (Nat.le_refl _)
 rw [this, List.drop_of_length_le (by omega), List.append_nil]
def ordN : List Nat := [237, 211, 245, 92, 26, 99, 18, 88, 214, 156, 247, 162, 222, 249, 222, 20, 0, 0, 0, 0, 0, 0, 0, 0, 0, 0, 0, 0, 0, 0, 0, 16]
theorem ordN_is : ordN = bytesN Sc.L 32 := by decide +kernel
theorem ord_cell {w : World} {g k : Nat} {T : TypeId} (h : Blk w g T (ordN.map u8N)) (hk : k < 32) : w.cell? ⟨g, k, none⟩ = some (.int .u8 ((Sc.byt Sc.L k : Nat) : Int)) := by
 rw [ordN_is] at h
 have := cellB h (i := k) (by rw [bytesN_length]; exact hk)
 rwa [bytesN_get _ _ _ hk] at this
theorem more_cell {w : World} {g k : Nat} {T : TypeId} {l m : List Nat} {N : Nat} {tl : List Value} (h : Blk w g T ((moreL (sgL l m) N k).map u8N ++ tl)) (hk : k < 32) : w.cell? ⟨g, 32 + k, none⟩ = some (.int .u8 ((Sc.byt (num (sgS l m)) k : Nat) : Int)) := by
 have hlen : (moreL (sgL l m) N k).length = 64 := by rw [moreL_len, sgL_len]
 have e : (moreL (sgL l m) N k).getD (32 + k) 0 = Sc.byt (num (sgS l m)) k := by
  rw [moreL_high _ _ _ _ (Nat.le_refl _), byt_num (sgS_len l m) (fun i => scB_lt (num (sgk l m) * num (secL l) + num (sgr l m)) i) k hk, ← sgL_drop, List.getD_eq_getElem?_getD, List.getD_eq_getElem?_getD, List.getElem?_drop]
 apply h.cell
 rw [List.getElem?_append_left (by rw [List.length_map, hlen]; omega), List.getElem?_map, ← e, List.getD_eq_getElem?_getD, List.getElem?_eq_getElem (by omega)]
 rfl
theorem more_set {w : World} {g k d : Nat} {T : TypeId} {s : List Nat} {N : Nat} {tl : List Value} (h : Blk w g T ((moreL s N k).map u8N ++ tl)) (hs : s.length = 64) (hk : k < 32) (hd : d = Sc.byt N k) : Blk (w.setCell ⟨g, 32 + k, none⟩ (u8N d)) g T ((moreL s N (k + 1)).map u8N ++ tl) := by
 subst hd
 have h2 := h.set (32 + k) (u8N (Sc.byt N k))
 rw [List.set_append_left _ _ (by rw [List.length_map, moreL_len, hs]; omega), set_u8] at h2
 exact h2
end
section
open Go.RowKit Ow
end
section
open Go.RowKit Ow
set_option maxHeartbeats 2000000 in
theorem copyB_any (B n cap : Nat) (a : Option Addr) (l : List Nat) (w : World) (hl : l.length = n) (h0 : 0 < n) (hn : n ≤ 1000000) (hP : BytesAt w B a cap l) :
  Calls Tryz.prog 10 #[.slice a n cap] w fun e w' => ∃ g c, e = .returned (.slice (some ⟨g, 0, none⟩) n c) ∧ w.grownBy w' none ∧ w'.ownsRow w.heap.size 5 1 (.slice (some ⟨g, 0, none⟩) n c) n (l.map u8N) := by
 obtain ⟨v2, w2, hr2, ho2, hg2⟩ := append_bytes w w.heap.size 0 B cap n (.slice none 0 0) [] a l (World.ownsRow_nil w _ 5 1) hl hP (by omega) (Nat.le_refl _)
 rw [Nat.zero_add, List.nil_append] at ho2
 have HS := Lib.hid (And.intro ho2 hg2); clear ho2 hg2
 have HR := Lib.hid hr2; clear hr2
 go_enter Tryz.func10, Tryz.ntmps10
 go_upto_region 2 with (fail)
 refine wp_region_lit ?_
 refine Fg.wpl_value (v := .slice none 0 0) (w' := w) rfl (Fg.run_move rfl rfl) ?_
 refine Fg.wpl_value (v := .slice a n cap) (w' := w) rfl (Fg.run_move rfl rfl) ?_
 refine wpList_append_run rfl (.tmp 4) (.tmp 5) 22 rfl rfl _ _ rfl rfl _ _ HR.out ?_
 refine Fg.wpl_value (v := v2) (w' := w2) rfl (Fg.run_assign rfl rfl) ?_
 refine wpList_nil ?_
 simp only [Act.put, List.setIfInBounds_toArray, List.set_cons_succ, List.set_cons_zero]
 go_wp2
 go_ret
 obtain ⟨ho2, hg2⟩ := HS.out
 have hg3 : w.grownBy w2 none := hg2
 have ho4 := ho2
 rcases ho4.2 with ⟨_, h⟩ | ⟨g, c, cur, rfl, _⟩
 ·omega
 ·exact ⟨g, c, rfl, hg3, ho2⟩
end
section
open Go.RowKit Ow Go.Shelf Ed
theorem lt_app {a b : List Nat} (ha : ∀ i, a.getD i 0 < 256) (hb : ∀ i, b.getD i 0 < 256) (i : Nat) : (a ++ b).getD i 0 < 256 := by
 rw [List.getD_eq_getElem?_getD, List.getElem?_append]
 split
 ·rw [← List.getD_eq_getElem?_getD]; exact ha i
 ·rw [← List.getD_eq_getElem?_getD]; exact hb _
set_option maxRecDepth 100000 in
set_option maxHeartbeats 12800000 in
theorem signBack_any (n0 c0 n1 c1 n2 c2 B : Nat) (a0 a1 a2 : Option Addr) (l0 l1 l2 : List Nat) (w0 : World) (HO : OTab w0) (HT : ETab w0) (HS : Tables w0) (hl0 : l0.length = n0) (hl1 : l1.length = n1) (hl2 : l2.length = n2)
  (hp0 : BytesAt w0 B a0 c0 l0) (hp1 : BytesAt w0 B a1 c1 l1) (hp2 : BytesAt w0 B a2 c2 l2) :
  Calls Tryz.prog 3 #[.slice a0 n0 c0, .slice a1 n1 c1, .slice a2 n2 c2] w0 fun e w' => e = .returned (.bool true) ∧ w0.grownBy w' none := by
 have HH := Lib.hid (And.intro HO (And.intro HT HS)); clear HO HT HS
 have HP0 := Lib.hid (And.intro hl0 hp0); clear hl0 hp0
 have HP1 := Lib.hid (And.intro hl1 hp1); clear hl1 hp1
 have HP2 := Lib.hid (And.intro hl2 hp2); clear hl2 hp2
 go_enter Tryz.func3, Tryz.ntmps3
 go_wp2_with fail
 refine (awake5_any w0 HH.out.1 HH.out.2.1 HH.out.2.2).mono ?_
 rintro e w1 ⟨rfl, ga⟩
 have HG := Lib.hid ga; clear ga
 by_cases h0 : 1000 < n1
 case pos =>
  have i0 : (1000 : Int) < n1 := by omega
  go_wp2
  go_ret
  exact ⟨rfl, HG.out⟩
 have i0 : ¬ (1000 : Int) < n1 := by omega
 by_cases h1 : 100 < n0
 case pos =>
  have i1 : (100 : Int) < n0 := by omega
  go_wp2
  go_ret
  exact ⟨rfl, HG.out⟩
 have i1 : ¬ (100 : Int) < n0 := by omega
 by_cases h2 : 64 < n2
 case pos =>
  have i2 : (64 : Int) < n2 := by omega
  go_wp2
  go_ret
  exact ⟨rfl, HG.out⟩
 have i2 : ¬ (64 : Int) < n2 := by omega
 go_wp2_with fail
 refine (seed_any B n0 c0 a0 l0 w1 HP0.out.1 (HP0.out.2.stay HG.out)).mono ?_
 rintro e w2 ⟨x, hx, hxb, ho⟩
 obtain ⟨gx, rfl, ga, hnx, hbx⟩ := outB_blk ho hx
 have HX := Lib.hid (And.intro (gb_trans HG.out ga) (And.intro hbx (And.intro hx hxb))); clear ga hbx ho hnx hx hxb HG
 go_wp2_with fail
 refine (pub_any x 32 _ (some ⟨gx, 0, none⟩) w2 (HH.out.2.1.grown HX.out.1) (HH.out.2.2.kept HX.out.1 (fun b e => by cases e)) HX.out.2.2.1 (Lib.hid (rowB0 HX.out.2.1 HX.out.2.2.1 HX.out.2.2.2))).mono ?_
 rintro e w3 ⟨gp, rfl, ga, hnp, hbp⟩
 have HX3 := Lib.hid (And.intro (gb_trans HX.out.1 ga) (And.intro (HX.out.2.1.grown ga (by simp)) (And.intro HX.out.2.2 (And.intro hbp (Nat.le_trans HX.out.1.size hnp))))); clear ga hbp hnp HX
 go_wp2_with fail
 have gz := gb_alloc HX3.out.1 (.cells #[.slice a1 n1 c1] 22)
 have gz1 := gb_alloc (gb_refl w3 none) (.cells #[.slice a1 n1 c1] 22)
 have hl1000 : l1.length < 1000000 := by rw [HP1.out.1]; omega
 refine (sign_sig x l1 32 _ 1 1 _ (some ⟨gx, 0, none⟩) _ [⟨a1, c1, l1⟩] _ (HH.out.1.kept gz (fun b e => by cases e)) (HH.out.2.1.grown gz) (HH.out.2.2.kept gz (fun b e => by cases e)) HX3.out.2.2.1.1 (Lib.hid ((rowB0 HX3.out.2.1 HX3.out.2.2.1.1 HX3.out.2.2.1.2).stay gz1)) rfl (Lib.hid (parts1 HP1.out.1 (Blk.new w3 [.slice a1 n1 c1] 22) (HP1.out.2.stay gz))) (by decide) (part_one _ _ _) hl1000).mono ?_
 rintro e w4 ⟨gs, cs, tl, rfl, ga, h64, hc63, hbs⟩
 have HX4 := Lib.hid (And.intro (gb_trans gz ga) (And.intro hbs (And.intro ((HX3.out.2.2.2.1.grown gz1 (by simp)).grown ga (by simp)) (And.intro (And.intro h64 hc63) HX3.out.2.2.2.2)))); clear ga hbs h64 hc63 gz gz1
 go_wp2_with fail
 have gz := gb_alloc HX4.out.1 (.cells #[.slice a1 n1 c1] 22)
 have gz1 := gb_alloc (gb_refl w4 none) (.cells #[.slice a1 n1 c1] 22)
 refine (ver_yes x l1 gs gp cs 1 1 _ _ [⟨a1, c1, l1⟩] tl _ (HH.out.1.kept gz (fun b e => by cases e)) (HH.out.2.1.grown gz) (HH.out.2.2.kept gz (fun b e => by cases e)) (HX4.out.2.2.1.grown gz1 (by simp)) HX4.out.2.2.2.1.1 HX4.out.2.2.2.1.2 (HX4.out.2.1.grown gz1 (by simp)) rfl (Lib.hid (parts1 HP1.out.1 (Blk.new w4 [.slice a1 n1 c1] 22) (HP1.out.2.stay gz))) (by decide) (part_one _ _ _) hl1000).mono ?_
 rintro e w5 ⟨rfl, ga⟩
 have g45 := gb_trans gz1 ga
 have HX5 := Lib.hid (And.intro (gb_trans HX4.out.1 g45) (And.intro (HX4.out.2.1.grown g45 (by simp)) (And.intro (HX4.out.2.2.1.grown g45 (by simp)) HX4.out.2.2.2))); clear ga gz gz1 g45
 obtain ⟨sF, hF, hF2⟩ := slice_from (some ⟨gs, 0, none⟩) 64 cs 32 (by decide)
 have hF' : ∀ w, (Instr.slice 22 (.slice (some ⟨gs, 0, none⟩) 64 cs) (some (.int .i64 32)) none none).run Tryz.prog w = .ok (.slice sF 32 (cs - 32)) w := hF
 have qS : BytesAt w5 w5.heap.size sF (cs - 32) (sgS x l1) := by
  have h := bytes_drop (k := 32) (sigB (sgL_len _ _) (sgL_lt _ _) HX5.out.2.2.2.1.1 HX5.out.2.2.2.1.2 HX5.out.2.1) hF2
  rwa [sgL_drop] at h
 have HS5 := Lib.hid (And.intro hF' (And.intro qS hF2)); clear hF hF' hF2 qS
 have hF' := HS5.out.1
 go_wp2_with fail
 refine (sright_val (cs - 32) _ sF (sgS x l1) w5 true (sgS_len _ _) HS5.out.2.1 (HH.out.1.kept HX5.out.1 (fun b e => by cases e)) (decide_eq_true (by rw [sgS_num]; exact Nat.mod_lt _ (by decide +kernel)))).mono ?_
 rintro e w6 ⟨rfl, ga⟩
 have HX6 := Lib.hid (And.intro (gb_trans HX5.out.1 ga) (And.intro (HX5.out.2.1.grown ga (by simp)) (And.intro (HX5.out.2.2.1.grown ga (by simp)) HX5.out.2.2.2))); clear ga
 go_wp2_with fail
 have hbo := Blk.new w6 (ordN.map u8N) 5
 have gz1 : w6.grownBy (w6.alloc (.cells (ordN.map u8N).toArray 5)) none := gb_alloc (gb_refl _ _) _
 refine (copyB_any _ 64 cs (some ⟨gs, 0, none⟩) (sgL x l1) _ (sgL_len _ _) (by decide) (by decide) ((sigB (sgL_len _ _) (sgL_lt _ _) HX6.out.2.2.2.1.1 HX6.out.2.2.2.1.2 HX6.out.2.1).stay gz1)).mono ?_
 rintro e w7 ⟨gm, cm, rfl, ga, ho⟩
 obtain ⟨tm, hbm, hnm, h64m, hcm⟩ := own_row ho
 obtain ⟨qo, hqo⟩ : ∃ q, q = w6.heap.size := ⟨_, rfl⟩
 have hnm2 : qo < gm := by
  have h2 : (w6.alloc (.cells (ordN.map u8N).toArray 5)).heap.size ≤ gm := hnm
  simp at h2
  omega
 have hgs : gs < qo := by rw [hqo]; exact HX6.out.2.1.lt
 have hgp : gp < qo := by rw [hqo]; exact HX6.out.2.2.1.lt
 have hwm : w0.heap.size ≤ qo := by rw [hqo]; exact HX6.out.1.size
 have g67 : w6.grownBy w7 none := gb_trans gz1 ga
 have hbo7 : Blk w7 qo 5 (ordN.map u8N) := by rw [hqo]; exact Blk.grown hbo ga (by simp)
 have HX7 := Lib.hid (And.intro (gb_trans HX6.out.1 g67) (And.intro (HX6.out.2.1.grown g67 (by simp)) (And.intro (HX6.out.2.2.1.grown g67 (by simp)) (And.intro hbo7 hbm)))); clear hbo gz1 ga ho hbm hnm g67 hbo7
 have HC := Lib.hid (And.intro (And.intro h64m hcm) HX6.out.2.2.2); clear h64m hcm HX6
 rw [← hqo]
 clear hqo
 go_wp2
 go_loopw [12, 13] (fun c i wr => ∃ (k : Nat) (U : World), U = wr ∧ k ≤ 32 ∧ i = .int .i64 k ∧ c = .int .i64 (cy (num (sgS x l1)) Sc.L k : Nat) ∧ w0.grownBy U none ∧ Blk U gs 5 ((sgL x l1).map u8N ++ tl) ∧ Blk U gp 101 ((digL (enc (sgA x))).map u8N) ∧ Blk U qo 5 (ordN.map u8N) ∧ Blk U gm 5 ((moreL (sgL x l1) (num (sgS x l1) + Sc.L) k).map u8N ++ tm)) (fun _ i _ => 32 - (intOf i).toNat)
 case atStart => exact ⟨0, w7, rfl, by decide, rfl, by rw [cy_zero]; rfl, HX7.out⟩
 case round =>
  clear HX7
  obtain ⟨k, U, rfl, hk, rfl, rfl, hinv⟩ := hrel
  have HI := Lib.hid hinv; clear hinv
  by_cases hlt : k < 32
  ·have i9 : (k : Int) < 32 := by omega
   obtain ⟨d1, d2⟩ := cy_step (num (sgS x l1)) Sc.L k
   have d3 := cy_small (num (sgS x l1)) Sc.L k
   have e1 : U.cell? ⟨gm, 32 + k, none⟩ = some (.int .u8 ((Sc.byt (num (sgS x l1)) k : Nat) : Int)) := more_cell HI.out.2.2.2.2 hlt
   have e2 : U.cell? ⟨qo, k, none⟩ = some (.int .u8 ((Sc.byt Sc.L k : Nat) : Int)) := ord_cell HI.out.2.2.2.1 hlt
   have f1 := HI.out.2.2.2.2.free (32 + k)
   have b1 := Sc.byt_lt (num (sgS x l1)) k
   have b2 := Sc.byt_lt Sc.L k
   have HD := Lib.hid (And.intro d1 d2)
   obtain ⟨cn, hcn⟩ : ∃ c, c = cy (num (sgS x l1)) Sc.L (k + 1) := ⟨_, rfl⟩
   obtain ⟨dn, hdn⟩ : ∃ c, c = Sc.byt (num (sgS x l1) + Sc.L) k := ⟨_, rfl⟩
   rw [← hcn] at d1
   rw [← hdn] at d2
   generalize cy (num (sgS x l1)) Sc.L k = c0 at *
   generalize Sc.byt (num (sgS x l1)) k = av at *
   generalize Sc.byt Sc.L k = bv at *
   have HN := Lib.hid (And.intro hcn hdn); clear hcn hdn HD
   have s1 : IntKind.i64.wrap (32 + (k : Int)) = 32 + (k : Int) := IntWalk.i64_in _ (by omega)
   have s2 : (32 : Int) + k < 64 := by omega
   have s3 : (32 + (k : Int)).toNat = 32 + k := by omega
   have s4 : 0 ≤ (32 : Int) + k := by omega
   have t1 : IntKind.i64.wrap (av : Int) = av := IntWalk.i64_in _ (by omega)
   have t2 : IntKind.i64.wrap (bv : Int) = bv := IntWalk.i64_in _ (by omega)
   have t3 : IntKind.i64.wrap ((c0 : Int) + av) = (c0 : Int) + av := IntWalk.i64_in _ (by omega)
   have t4 : IntKind.i64.wrap ((c0 : Int) + av + bv) = (c0 : Int) + av + bv := IntWalk.i64_in _ (by omega)
   have t5 : IntKind.u8.wrap ((c0 : Int) + av + bv) = (dn : Int) := by
    rw [show IntKind.u8.wrap ((c0 : Int) + av + bv) = ((c0 : Int) + av + bv) % 256 by simp [IntKind.wrap, IntKind.signed, IntKind.bits]]
    omega
   have t6 : Int.tdiv ((c0 : Int) + av + bv) 256 = (cn : Int) := by
    rw [Int.tdiv_eq_ediv_of_nonneg (by omega)]
    omega
   have t7 : IntKind.i64.wrap (cn : Int) = cn := IntWalk.i64_in _ (by omega)
   clear d1 d2
   have hng : qo < gm := hnm2
   have HF := Lib.hid (And.intro (gb_set_new HI.out.1 (p := ⟨gm, 32 + k, none⟩) (show w0.heap.size ≤ gm by omega) (u8N dn)) (And.intro (HI.out.2.1.other (a := ⟨gm, 32 + k, none⟩) (show gm ≠ gs by omega) (u8N dn)) (And.intro (HI.out.2.2.1.other (a := ⟨gm, 32 + k, none⟩) (show gm ≠ gp by omega) (u8N dn)) (And.intro (HI.out.2.2.2.1.other (a := ⟨gm, 32 + k, none⟩) (show gm ≠ qo by omega) (u8N dn)) (more_set HI.out.2.2.2.2 (sgL_len _ _) hlt HN.out.2)))))
   go_upto_region 15 with (fail)
   go_region_with (skip)
   all_goals go_wp2
   all_goals exact ⟨⟨k + 1, _, rfl, hlt, rfl, by rw [HN.out.1], gb_drew HF.out.1, HF.out.2.1.drew, HF.out.2.2.1.drew, HF.out.2.2.2.1.drew, HF.out.2.2.2.2.drew⟩, by show 32 - ((k : Int) + 1).toNat < 32 - (k : Int).toNat; omega⟩
  have hk32 : k = 32 := by omega
  subst hk32
  have i9 : ¬ ((32 : Nat) : Int) < 32 := by omega
  obtain ⟨ml, hml⟩ : ∃ q, q = moreL (sgL x l1) (num (sgS x l1) + Sc.L) 32 := ⟨_, rfl⟩
  have hml2 := hml
  rw [moreL_all _ _ (sgL_len _ _)] at hml2
  have m64 : ml.length = 64 := by rw [hml, moreL_len, sgL_len]
  have mlt : ∀ i, ml.getD i 0 < 256 := by
   intro i
   rw [hml2, List.getD_eq_getElem?_getD, List.getElem?_append]
   split
   ·rename_i h
    rw [List.getElem?_take_of_lt (by rw [List.length_take] at h; omega), ← List.getD_eq_getElem?_getD]
    exact sgL_lt _ _ _
   ·rw [← List.getD_eq_getElem?_getD]; exact bytesN_lt _ _ _
  have mno : ∀ p m, ¬ VerP p ml m := by
   intro p m
   rw [hml2]
   refine ver_more p m _ _ (by rw [List.length_take, sgL_len]; rfl) ?_
   rw [num_bytesN, Nat.mod_eq_of_lt]
   ·exact Nat.le_add_left _ _
   ·have h1 : num (sgS x l1) < Sc.L := by rw [sgS_num]; exact Nat.mod_lt _ (by decide +kernel)
    have h2 : Sc.L + Sc.L ≤ 2 ^ (8 * 32) := by decide +kernel
    exact Nat.lt_of_lt_of_le (Nat.add_lt_add_right h1 _) h2
  have HJ := HI.out
  rw [← hml] at HJ
  have HM := Lib.hid (And.intro m64 (And.intro mlt mno)); clear hml hml2 m64 mlt mno
  have HK := Lib.hid HJ; clear HJ HI
  go_wp2_with fail
  refine (reduce_any n2 c2 B a2 l2 U HP2.out.1 (by omega) (HP2.out.2.stay HK.out.1) (HH.out.1.kept HK.out.1 (fun b e => by cases e))).mono ?_
  rintro e w8 ho
  obtain ⟨gy, rfl, ga, hny, hby⟩ := outB_blk ho (scB_length _)
  have HX8 := Lib.hid (And.intro (gb_trans HK.out.1 ga) (And.intro (HK.out.2.1.grown ga (by simp)) (And.intro (HK.out.2.2.1.grown ga (by simp)) (And.intro (HK.out.2.2.2.2.grown ga (by simp)) hby)))); clear ga hby hny ho HK
  go_wp2_with fail
  have gz := gb_alloc HX8.out.1 (.cells #[.slice a1 n1 c1] 22)
  have gz1 := gb_alloc (gb_refl w8 none) (.cells #[.slice a1 n1 c1] 22)
  refine (verify_any (digL (enc (sgA x))) ml 32 32 _ _ _ 1 1 _ _ _ _ [⟨a1, c1, l1⟩] _ (HH.out.1.kept gz (fun b e => by cases e)) (HH.out.2.1.grown gz) (HH.out.2.2.kept gz (fun b e => by cases e)) (digL_len _) (by decide) (Lib.hid (digB (HX8.out.2.2.1.grown gz1 (by simp)))) HM.out.1 (Lib.hid (sigB HM.out.1 HM.out.2.1 HC.out.1.1 HC.out.1.2 (HX8.out.2.2.2.1.grown gz1 (by simp)))) rfl (Lib.hid (parts1 HP1.out.1 (Blk.new w8 [.slice a1 n1 c1] 22) (HP1.out.2.stay gz))) (by decide) (by rw [part_one]; exact hl1000)).mono ?_
  rintro e w9 ⟨bq, rfl, ga, hv⟩
  have hbq : bq = false := by cases bq with | false => rfl | true => exact absurd (hv.1 rfl) (HM.out.2.2 _ _)
  subst hbq
  have g89 := gb_trans gz1 ga
  have HX9 := Lib.hid (And.intro (gb_trans HX8.out.1 g89) (And.intro (HX8.out.2.1.grown g89 (by simp)) (And.intro (HX8.out.2.2.1.grown g89 (by simp)) (HX8.out.2.2.2.2.grown g89 (by simp))))); clear ga gz gz1 g89 hv HX8 HM
  obtain ⟨sT, hT, hT2⟩ := slice_to (some ⟨gs, 0, none⟩) 64 cs 32 (by have := HC.out.2.1.1; omega)
  have hT' : ∀ w, (Instr.slice 22 (.slice (some ⟨gs, 0, none⟩) 64 cs) none (some (.int .i64 32)) none).run Tryz.prog w = .ok (.slice sT 32 cs) w := hT
  have qT : BytesAt w9 w9.heap.size sT cs (digL (enc (sgR x l1))) := by
   have h := bytes_take (k := 32) (sigB (sgL_len _ _) (sgL_lt _ _) HC.out.2.1.1 HC.out.2.1.2 HX9.out.2.1) hT2
   rwa [sgL_take] at h
  have HT9 := Lib.hid (And.intro hT' qT); clear hT hT' hT2 qT
  have hT' := HT9.out.1
  go_wp2_with fail
  refine (copyB_any _ 32 cs sT (digL (enc (sgR x l1))) _ (digL_len _) (by decide) (by decide) HT9.out.2).mono ?_
  rintro e w10 ⟨gz, cz, rfl, ga, ho⟩
  obtain ⟨v2, w11, hr2, ho2, hg2⟩ := append_bytes w10 w9.heap.size 32 w10.heap.size 32 32 _ _ (some ⟨gy, 0, none⟩) (scB (num l2)) ho (scB_length _) (rowB0 (HX9.out.2.2.2.grown ga (by simp)) (scB_length _) (scB_lt _)) (by decide) ga.size
  have G2 := gb_own ga ho (Nat.le_refl _) hg2
  obtain ⟨gv, cv, rfl, _⟩ := own_some ho2 (by decide)
  rw [← List.map_append] at ho2
  obtain ⟨tv, hbv, _, h64v, hcv⟩ := own_row ho2
  have hr2' := Lib.hid hr2
  have HX11 := Lib.hid (And.intro (gb_trans HX9.out.1 G2) (And.intro (HX9.out.2.1.grown G2 (by simp)) (And.intro (HX9.out.2.2.1.grown G2 (by simp)) (And.intro (HX9.out.2.2.2.grown G2 (by simp)) (And.intro hbv (And.intro h64v hcv)))))); clear ho2 G2 hg2 HX9 ho ga hr2 hbv h64v hcv
  go_wp2_with (at_builtin; refine wpList_append_run rfl (.tmp 104) (.tmp 105) 22 rfl rfl _ _ rfl rfl _ _ hr2'.out ?_)
  have q11 : BytesAt w11 w11.heap.size sF (cs - 32) (sgS x l1) := by
   have h := bytes_drop (k := 32) (sigB (sgL_len _ _) (sgL_lt _ _) HC.out.2.1.1 HC.out.2.1.2 HX11.out.2.1) HS5.out.2.2
   rwa [sgL_drop] at h
  refine (sameBytes_any _ _ 32 32 _ _ _ _ (scB (num l2)) (sgS x l1) w11 (scB_length _) (sgS_len _ _) (rowB0 HX11.out.2.2.2.1 (scB_length _) (scB_lt _)) q11).mono ?_
  rintro e w12 ⟨rfl, ga⟩
  have HX12 := Lib.hid (And.intro (gb_trans HX11.out.1 ga) (And.intro (HX11.out.2.2.1.grown ga (by simp)) (And.intro (HX11.out.2.2.2.2.1.grown ga (by simp)) HX11.out.2.2.2.2.2))); clear ga q11 HX11
  go_wp2_with fail
  have gz := gb_alloc HX12.out.1 (.cells #[.slice a1 n1 c1] 22)
  have gz1 := gb_alloc (gb_refl w12 none) (.cells #[.slice a1 n1 c1] 22)
  have z64 : (digL (enc (sgR x l1)) ++ scB (num l2)).length = 64 := by rw [List.length_append, digL_len, scB_length]
  refine (verify_any (digL (enc (sgA x))) (digL (enc (sgR x l1)) ++ scB (num l2)) 32 32 _ _ _ 1 1 _ _ _ _ [⟨a1, c1, l1⟩] _ (HH.out.1.kept gz (fun b e => by cases e)) (HH.out.2.1.grown gz) (HH.out.2.2.kept gz (fun b e => by cases e)) (digL_len _) (by decide) (Lib.hid (digB (HX12.out.2.1.grown gz1 (by simp)))) z64 (Lib.hid (sigB z64 (lt_app (digL_lt _) (scB_lt _)) HX12.out.2.2.2.1 HX12.out.2.2.2.2 (HX12.out.2.2.1.grown gz1 (by simp)))) rfl (Lib.hid (parts1 HP1.out.1 (Blk.new w12 [.slice a1 n1 c1] 22) (HP1.out.2.stay gz))) (by decide) (by rw [part_one]; exact hl1000)).mono ?_
  rintro e w13 ⟨bq, rfl, ga, hv⟩
  rw [part_one, ver_other x l1 _ (scB_length _) (scB_lt _) (by rw [scB_num]; exact Nat.mod_lt _ (by decide +kernel))] at hv
  have hb : bq = decide (scB (num l2) = sgS x l1) := by
   by_cases h : scB (num l2) = sgS x l1
   ·rw [decide_eq_true h]; exact hv.2 h
   ·rw [decide_eq_false h]
    cases bq with
    | false => rfl
    | true => exact absurd (hv.1 rfl) h
  have HZ := Lib.hid (And.intro (gb_trans HX12.out.1 (gb_trans gz1 ga)) hb); clear ga gz gz1 hv hb HX12 z64
  generalize decide (scB (num l2) = sgS x l1) = bb at *
  have hb := HZ.out.2
  subst hb
  go_wp2_with fail
  go_ret
  exact ⟨by cases bq <;> rfl, HZ.out.1⟩
end
section
open Go.ChangeShapes Go.WideShapes Go.ChangeAt Go.RowKit Ow
theorem laidMet_tail {P : Program} {x : String × DataW Unit} {rest : List (String × DataW Unit)} {W : World} (h : laidMet P (x :: rest) W) : laidMet P rest W := by
 obtain ⟨ps, ⟨g, t, cs, fuel, p, q, _, _, _, _, hq, rfl⟩, hn, hc⟩ := h
 exact ⟨q, hq, (List.nodup_append.1 hn).2.1, fun b off hm => hc b off (List.mem_append_right _ hm)⟩
theorem own : ownKnob Tryz.prog.godebug = none := by kernel_rfl
theorem laidOut : laidOutB Tryz.prog = true := by kernel_rfl
def nats (l : List Int) : List Nat := l.map Int.toNat
theorem bytes_arg {W : World} {x : Addr} {len cap : Nat} {zs : List Int} (ht : cap < 9223372036854775808) (hl : len ≤ cap) (hz : zs.length = cap) (hcell : ∀ i, i < zs.length → W.cell? (x.add i) = some (.int .u8 (zs.getD i 0))) (hw : ∀ n ∈ zs, (Lit.int .u8 n).wf = true) :
  BytesAt W W.heap.size (some x) cap (nats (zs.take len)) ∧ (nats (zs.take len)).length = len := by
 have hlen : (nats (zs.take len)).length = len := by simp [nats, hz]; omega
 have hbd : ∀ n ∈ zs, 0 ≤ n ∧ n < 256 := fun n hn => by
  have := hw n hn
  simp [Lit.wf, IntKind.min, IntKind.max, IntKind.signed, IntKind.bits] at this
  omega
 have hget : ∀ i, i < len → (((nats (zs.take len)).getD i 0 : Nat) : Int) = zs.getD i 0 := fun i hi => by
  have h1 : i < zs.length := by omega
  have := hbd zs[i] (List.getElem_mem h1)
  rw [List.getD_eq_getElem?_getD, List.getD_eq_getElem?_getD]
  unfold nats
  rw [List.getElem?_map, List.getElem?_take, if_pos hi, List.getElem?_eq_getElem h1]
  simp; omega
 refine ⟨⟨Nat.le_refl _, by omega, ht, fun i => ?_, ?_⟩, hlen⟩
 ·by_cases hi : i < len
  ·have h1 : i < zs.length := by omega
   have := hbd zs[i] (List.getElem_mem h1)
   have h2 := hget i hi
   rw [List.getD_eq_getElem?_getD (l := zs), List.getElem?_eq_getElem h1] at h2
   simp only [Option.getD_some] at h2
   omega
  ·rw [List.getD_eq_getElem?_getD, List.getElem?_eq_none (by omega)]; decide
 ·by_cases h0 : len = 0
  ·exact Or.inl (by omega)
  ·obtain ⟨b, off, spot⟩ := x
   have hc := hcell 0 (by omega)
   have hspot : spot = none := by simpa [Addr.add] using World.cell?_spot hc
   subst hspot
   have hadd : ∀ j, (⟨b, off, none⟩ : Addr).add j = ⟨b, off + j, none⟩ := fun j => by unfold Addr.add; split <;> simp_all
   have hlt : b < W.heap.size := block_lt_of_cell hc
   refine Or.inr ⟨b, off, rfl, hlt, fun i hi => ?_⟩
   rw [hlen] at hi
   have h3 := hcell i (by omega)
   rw [hadd, ← hget i hi] at h3
   exact h3
theorem bytes_open {H : Type} {enc : TypeId × Value → H} {W : World} {a : Option Addr} {len cap : Nat} {d : DataW H} {ps : List MemPlace} (h : DataW.Trod enc Tryz.prog W 0 (fun _ => true) true 22 (.slice a len cap) d ps) :
  ∃ p, p.length = len ∧ BytesAt W W.heap.size a cap p := by
 obtain ⟨fuel, hf⟩ := h
 rcases open_ints Tryz.underlying22 Tryz.underlying5 (by kernel_rfl) hf with ⟨hcs, _⟩ | ⟨x, l, c, zs, hcs, _, hl, hm, hz, _, hcell, hwz⟩
 ·simp [Value.cells] at hcs
  obtain ⟨rfl, rfl, rfl⟩ := hcs
  exact ⟨[], rfl, ⟨Nat.le_refl _, Nat.le_refl _, by decide, by simp, Or.inl rfl⟩⟩
 ·simp [Value.cells] at hcs
  obtain ⟨rfl, rfl, rfl⟩ := hcs
  unfold maxLen at hm
  have hb := bytes_arg (by omega) hl (by simpa using hz) hcell hwz
  exact ⟨_, hb.2, hb.1⟩
end
section
open Go.ChangeShapes Go.WideShapes Go.ChangeAt Go.RowKit Ow Ed
def listF : List Int := [9007199254740916, 9007199254740988, 9007199254740988, 9007199254740988, 9007199254740988]
def listI : List Int := [1718705420411056, 234908883556509, 2233514472574048, 2117202627021982, 765476049583133]
def listD : List Int := [929955233495203, 466365720129213, 1662059464998953, 2033849074728123, 1442794654840575]
def listBX : List Int := [1738742601995546, 1146398526822698, 2070867633025821, 562264141797630, 587772402128613]
def listBY : List Int := [1801439850948184, 1351079888211148, 450359962737049, 900719925474099, 1801439850948198]
def listBZ : List Int := [1, 0, 0, 0, 0]
def listBT : List Int := [1841354044333475, 16398895984059, 755974180946558, 900171276175154, 1821297809914039]
def listO : List Int := [6346243789798364141, 1503914060200516822, 0, 1152921504606846976]
def baseData : DataW Unit := .agg [Lib.tabData .u64 listBX, Lib.tabData .u64 listBY, Lib.tabData .u64 listBZ, Lib.tabData .u64 listBT]
theorem laid_is : [("buttress/field.fourTimesP", Rows.laid_buttress_field_fourTimesP), ("buttress/field.rootOfMinusOne", Rows.laid_buttress_field_rootOfMinusOne), ("buttress/edwards.d", Rows.laid_buttress_edwards_d), ("buttress/edwards.base", Rows.laid_buttress_edwards_base)] =
  [("buttress/field.fourTimesP", Lib.tabData (H := Unit) .u64 listF), ("buttress/field.rootOfMinusOne", Lib.tabData .u64 listI), ("buttress/edwards.d", Lib.tabData .u64 listD), ("buttress/edwards.base", baseData)] := by kernel_rfl
theorem laid_order : Rows.laid_buttress_scalar_order = Lib.tabData (H := Unit) .u64 listO := by kernel_rfl
theorem laid_head {P : Program} {W : World} {name : String} {d : DataW Unit} {rest : List (String × DataW Unit)} {g : Nat} {t : TypeId} (hg : P.globalNamed name = some g) (hty : (P.globals[g]?).map (·.type) = some t) (h : laidMet P ((name, d) :: rest) W) :
  ∃ (enc : TypeId × Value → Unit) (base : Nat) (sp : Nat → Bool) (held : Bool) (cs : Array Value) (fuel : Nat) (p : List MemPlace), W.var? P name = some cs ∧ DataW.trod enc P W base sp held fuel t cs.toList = some (d, p) := by
 obtain ⟨ps, ⟨g', t', cs, fuel, p, q, hg', ht', hvar, hd, _, _⟩, _⟩ := h
 obtain rfl := Option.some.inj (hg.symm.trans hg')
 obtain rfl := Option.some.inj (hty.symm.trans ht')
 exact ⟨_, _, _, _, _, fuel, p, hvar, by simpa using hd⟩
theorem cells_elem : Tryz.prog.cellsOf 34 = 5 := by kernel_rfl
theorem cells_u64 : Tryz.prog.cellsOf 32 = 1 := by kernel_rfl
theorem cells_pt : Tryz.prog.cellsOf 36 = 20 := by kernel_rfl
theorem parts20 {cs a b c e : List Value} (hl : cs.length = 20) (h0 : (cs.drop 0).take 5 = a) (h1 : (cs.drop 5).take 5 = b) (h2 : (cs.drop 10).take 5 = c) (h3 : (cs.drop 15).take 5 = e) : cs = a ++ b ++ c ++ e := by
 subst h0 h1 h2 h3
 have e3 : (cs.drop 15).take 5 = cs.drop 15 := List.take_of_length_le (by rw [List.length_drop]; omega)
 rw [e3, List.drop_zero, List.append_assoc, List.append_assoc]
 have k2 := List.take_append_drop 5 (cs.drop 10)
 rw [List.drop_drop] at k2
 have k1 := List.take_append_drop 5 (cs.drop 5)
 rw [List.drop_drop] at k1
 have k0 := List.take_append_drop 5 cs
 rw [k2, k1, k0]
theorem trod_pt {enc : TypeId × Value → Unit} {W : World} {base fuel : Nat} {sp : Nat → Bool} {held : Bool} {cs : List Value} {p : List MemPlace} (h : DataW.trod enc Tryz.prog W base sp held fuel 36 cs = some (baseData, p)) :
  cs = listBX.map (fun z => Value.int .u64 z) ++ listBY.map (fun z => Value.int .u64 z) ++ listBZ.map (fun z => Value.int .u64 z) ++ listBT.map (fun z => Value.int .u64 z) := by
 cases fuel with
 | zero => simp [DataW.trod] at h
 | succ fuel =>
  simp only [DataW.trod, Tryz.underlying36, cells_pt] at h
  split at h
  ·rename_i hl
   obtain ⟨xs, hm, hx⟩ := Option.map_eq_some_iff.1 h
   have hxs : xs.map (·.1) = [Lib.tabData .u64 listBX, Lib.tabData .u64 listBY, Lib.tabData .u64 listBZ, Lib.tabData .u64 listBT] := by
    have := congrArg Prod.fst hx
    simpa [baseData] using this
   obtain ⟨b0, e0, f0⟩ := Lib.mapM_at hm 0 _ rfl
   obtain ⟨b1, e1, f1⟩ := Lib.mapM_at hm 1 _ rfl
   obtain ⟨b2, e2, f2⟩ := Lib.mapM_at hm 2 _ rfl
   obtain ⟨b3, e3, f3⟩ := Lib.mapM_at hm 3 _ rfl
   have g0 : b0.1 = Lib.tabData .u64 listBX := by
    have := congrArg (·[0]?) hxs
    simpa [List.getElem?_map, e0] using this
   have g1 : b1.1 = Lib.tabData .u64 listBY := by
    have := congrArg (·[1]?) hxs
    simpa [List.getElem?_map, e1] using this
   have g2 : b2.1 = Lib.tabData .u64 listBZ := by
    have := congrArg (·[2]?) hxs
    simpa [List.getElem?_map, e2] using this
   have g3 : b3.1 = Lib.tabData .u64 listBT := by
    have := congrArg (·[3]?) hxs
    simpa [List.getElem?_map, e3] using this
   obtain ⟨x0, y0⟩ := b0
   obtain ⟨x1, y1⟩ := b1
   obtain ⟨x2, y2⟩ := b2
   obtain ⟨x3, y3⟩ := b3
   simp only [] at g0 g1 g2 g3
   subst g0 g1 g2 g3
   dsimp only at f0 f1 f2 f3
   have c0 := Lib.cells_of_tab Tryz.underlying34 Tryz.underlying32 cells_u64 cells_elem f0
   have c1 := Lib.cells_of_tab Tryz.underlying34 Tryz.underlying32 cells_u64 cells_elem f1
   have c2 := Lib.cells_of_tab Tryz.underlying34 Tryz.underlying32 cells_u64 cells_elem f2
   have c3 := Lib.cells_of_tab Tryz.underlying34 Tryz.underlying32 cells_u64 cells_elem f3
   rw [cells_elem] at c0 c1 c2 c3
   exact parts20 hl c0 c1 c2 c3
  ·cases h
theorem range_of {W : World} {name : String} {g : Nat} {cs L : List Value} (hg : Tryz.prog.globalNamed name = some g) (h : W.var? Tryz.prog name = some cs.toArray) (hL : cs = L) : W.rangeAt g 0 L := fun j v hv => by
 have := World.var?_cell hg h j
 subst hL
 rw [Nat.zero_add, this]
 simpa using hv
theorem tables {W : World} (h : laidMet Tryz.prog [("buttress/field.fourTimesP", Rows.laid_buttress_field_fourTimesP), ("buttress/field.rootOfMinusOne", Rows.laid_buttress_field_rootOfMinusOne), ("buttress/edwards.d", Rows.laid_buttress_edwards_d), ("buttress/edwards.base", Rows.laid_buttress_edwards_base)] W) : ETab W := by
 rw [laid_is] at h
 have g0 : Tryz.prog.globalNamed "buttress/field.fourTimesP" = some 3 := by kernel_rfl
 have g1 : Tryz.prog.globalNamed "buttress/field.rootOfMinusOne" = some 6 := by kernel_rfl
 have g2 : Tryz.prog.globalNamed "buttress/edwards.d" = some 2 := by kernel_rfl
 have g3 : Tryz.prog.globalNamed "buttress/edwards.base" = some 1 := by kernel_rfl
 have h0 := Lib.tabIs_of_head g0 (by kernel_rfl) Tryz.underlying34 Tryz.underlying32 (by kernel_rfl) (by kernel_rfl) h
 have h1 := Lib.tabIs_of_head g1 (by kernel_rfl) Tryz.underlying34 Tryz.underlying32 (by kernel_rfl) (by kernel_rfl) (laidMet_tail h)
 have h2 := Lib.tabIs_of_head g2 (by kernel_rfl) Tryz.underlying34 Tryz.underlying32 (by kernel_rfl) (by kernel_rfl) (laidMet_tail (laidMet_tail h))
 obtain ⟨_, _, _, _, cs, _, _, hvar, hd⟩ := laid_head (t := 36) g3 (by kernel_rfl) (laidMet_tail (laidMet_tail (laidMet_tail h)))
 have hp : ∀ i, i < 5 → W.cell? ⟨3, i, none⟩ = some (.int .u64 (fourP i)) := fun i hi => by
  rw [h0.cell g0 i hi]
  obtain rfl | rfl | rfl | rfl | rfl : i = 0 ∨ i = 1 ∨ i = 2 ∨ i = 3 ∨ i = 4 := by omega
  all_goals rfl
 have hq : ∀ i, i < 5 → W.cell? ⟨6, i, none⟩ = some (.int .u64 (rootI.at i)) := fun i hi => by
  rw [h1.cell g1 i hi]
  obtain rfl | rfl | rfl | rfl | rfl : i = 0 ∨ i = 1 ∨ i = 2 ∨ i = 3 ∨ i = 4 := by omega
  all_goals rfl
 have hr2 : W.rangeAt 2 0 (feL dF) := range_of g2 h2 rfl
 have hr3 : W.rangeAt 1 0 (ptL baseT) := range_of g3 (by rw [hvar, Array.toArray_toList]) (trod_pt hd)
 have l0 := block_lt_of_cell (hp 0 (by decide))
 have l1 := block_lt_of_cell (hq 0 (by decide))
 have l2 := block_lt_of_cell (hr2 0 _ rfl)
 have l3 := block_lt_of_cell (hr3 0 _ rfl)
 simp only [] at l0 l1 l2 l3
 exact ⟨⟨⟨l0, l1⟩, hp, hq⟩, l2, l3, hr2, hr3⟩
def putObj (l : List Int) : Obj → Obj
 | .cells _ t frozen => .cells (l.map (Value.int .u64)).toArray t frozen
 | o => o
end
section
open Go.ChangeShapes Go.WideShapes Go.ChangeAt Go.RowKit Ow Ed
def listK : List Int := Sha.K.map fun (n : Nat) => (n : Int)
def listH : List Int := Sha.H0.map fun (n : Nat) => (n : Int)
theorem laid_sq : Rows.laid_buttress_sha_squareRoots = Lib.tabData (H := Unit) .u64 listH := by kernel_rfl
theorem laid_cu : Rows.laid_buttress_sha_cubeRoots = Lib.tabData (H := Unit) .u64 listK := by kernel_rfl
theorem siTables {W : World} (h : laidMet Tryz.prog [("buttress/scalar.order", Rows.laid_buttress_scalar_order), ("buttress/sha.squareRoots", Rows.laid_buttress_sha_squareRoots), ("buttress/sha.cubeRoots", Rows.laid_buttress_sha_cubeRoots), ("buttress/field.fourTimesP", Rows.laid_buttress_field_fourTimesP), ("buttress/field.rootOfMinusOne", Rows.laid_buttress_field_rootOfMinusOne), ("buttress/edwards.d", Rows.laid_buttress_edwards_d), ("buttress/edwards.base", Rows.laid_buttress_edwards_base)] W) : OTab W ∧ ETab W ∧ Tables W := by
 refine ⟨?_, tables (laidMet_tail (laidMet_tail (laidMet_tail h))), ?_⟩
 ·rw [laid_order] at h
  have g0 : Tryz.prog.globalNamed "buttress/scalar.order" = some 4 := by kernel_rfl
  have h0 := Lib.tabIs_of_head g0 (by kernel_rfl) Tryz.underlying54 Tryz.underlying32 (by kernel_rfl) (by kernel_rfl) h
  have hp : ∀ i, i < 4 → W.cell? ⟨4, i, none⟩ = some (u64N (Sc.lw i)) := fun i hi => by
   rw [h0.cell g0 i hi]
   obtain rfl | rfl | rfl | rfl : i = 0 ∨ i = 1 ∨ i = 2 ∨ i = 3 := by omega
   all_goals rfl
  exact ⟨block_lt_of_cell (hp 0 (by decide)), hp⟩
 ·have k := laidMet_tail h
  rw [laid_sq, laid_cu] at k
  have g0 : Tryz.prog.globalNamed "buttress/sha.squareRoots" = some 0 := by kernel_rfl
  have g1 : Tryz.prog.globalNamed "buttress/sha.cubeRoots" = some 5 := by kernel_rfl
  have h0 := Lib.tabIs_of_head g0 (by kernel_rfl) Tryz.underlying88 Tryz.underlying32 (by kernel_rfl) (by kernel_rfl) k
  have h1 := Lib.tabIs_of_head g1 (by kernel_rfl) Tryz.underlying149 Tryz.underlying32 (by kernel_rfl) (by kernel_rfl) (laidMet_tail k)
  have cast_get : ∀ (l : List Nat) (i : Nat), (l.map fun (n : Nat) => (n : Int)).getD i 0 = ((l.getD i 0 : Nat) : Int) := fun l i => by
   rw [List.getD_eq_getElem?_getD, List.getD_eq_getElem?_getD, List.getElem?_map]
   cases l[i]? <;> rfl
  refine ⟨fun t ht => ?_, fun t ht => ?_⟩
  ·rw [h1.cell g1 t ht]; unfold listK; rw [cast_get]; rfl
  ·rw [h0.cell g0 t ht]; unfold listH; rw [cast_get]; rfl
noncomputable def siWorld (os : Os) : World :=
 { World.holding Tryz.prog os ⟨#[], #[], []⟩ with heap := (((((((World.holding Tryz.prog os ⟨#[], #[], []⟩).heap.modify 3 (putObj listF)).modify 6 (putObj listI)).modify 2 (putObj listD)).modify 1 (putObj (listBX ++ listBY ++ listBZ ++ listBT))).modify 4 (putObj listO)).modify 0 (putObj listH)).modify 5 (putObj listK) }
end
end Go.Proofs.YtjfclcoppedmoaaGreatDoor
