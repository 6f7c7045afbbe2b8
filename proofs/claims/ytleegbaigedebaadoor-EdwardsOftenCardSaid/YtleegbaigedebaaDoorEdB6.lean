/- texts merged, part 6: XEdFold XEdPoint4 XEdDig XOpen XEdLaid XSame XEdGroupM XEdBothM XEdIlv XEdBoth -/
import Derived.Test.YtleegbaigedebaaDoorEdB5
import Derived.Test.YtleegbaigedebaaDoorEdB1
import Derived.Deep.Cut
import Derived.Test.YtleegbaigedebaaDoorEdB4
import Derived.Test.YtleegbaigedebaaDoorChecked
import Derived.ProofKit
import Derived.OpenShut
import Derived.ShutString
import Derived.ChangeOld
import Derived.Deep.DeepHandedRow
import Derived.Lib.LaidTab
import Derived.SizedLaws
import Derived.Test.YtleegbaigedebaaDoorEdB3
import Derived.Test.YtleegbaigedebaaDoorCards
import Derived.Test.YtleegbaigedebaaDoorTie
import Derived.WalkKit
import Derived.Lib.Hide
import Derived.WalkSpells
import Derived.WalkLawsBesides
import Derived.BigQuiet
import Derived.Deep.QuietTactic
import Derived.Outline
/- edwards' law: fold. -/
namespace Go.Proofs.YtleegbaigedebaaDoor
open Go.RowKit Ow
theorem xor_bytes (a b : Nat) (ha : a < 256) (hb : b < 256) : ∃ c : Nat, c < 256 ∧ bits .xor .u8 (a : Int) (b : Int) = (c : Int) := by
  exact ⟨a ^^^ b, Nat.xor_lt_two_pow (n := 8) ha hb, u8_xor_nat a b ha hb⟩
theorem set_u8 (c : List Nat) (k x : Nat) : (c.map u8N).set k (u8N x) = (c.set k x).map u8N := by rw [List.map_set]
theorem set_lt (c : List Nat) (k x : Nat) (hc : ∀ i, c.getD i 0 < 256) (hx : x < 256) (j : Nat) : (c.set k x).getD j 0 < 256 := by
  rw [List.getD_eq_getElem?_getD, List.getElem?_set]
  split
  · split
    · exact hx
    · decide
  · have := hc j
    rwa [List.getD_eq_getElem?_getD] at this
theorem outB_bytes {l : List Nat} {w w' : World} {e : Ending} (h : OutB l w e w') (hl : l.length = 32) (hb : ∀ i, l.getD i 0 < 256) :
    ∃ g, e = .returned (.slice (some ⟨g, 0, none⟩) 32 32) ∧ w.grownBy w' none ∧ BytesAt w' w'.heap.size (some ⟨g, 0, none⟩) 32 l := by
  obtain ⟨g, rfl, hg, _, hk⟩ := h
  exact ⟨g, by rw [hl], hg, blk_bytes (tl := []) (by rw [List.append_nil]; exact hk) hl (Nat.le_refl _) (by omega) hb hk.lt (Nat.le_refl _)⟩
theorem rem32 (i : Nat) : Int.tmod (i : Int) 32 = ((i % 32 : Nat) : Int) := by
  rw [Int.tmod_eq_emod_of_nonneg (by omega)]
  omega
set_option maxRecDepth 100000 in
set_option maxHeartbeats 4000000 in
theorem fold_any (B len cap : Nat) (a : Option Addr) (l : List Nat) (w : World) (hl : l.length = len) (hP : BytesAt w B a cap l) :
    Calls Tryd.prog 17 #[.slice a len cap] w fun e w' => ∃ l' : List Nat, l'.length = 32 ∧ (∀ i, l'.getD i 0 < 256) ∧ OutB l' w e w' := by
  obtain ⟨w1, hmk, hg1, hs1, hb1⟩ := make_bytes 32 32 w (Nat.le_refl _) (by omega)
  have hmk' : (Instr.makeSlice 22 (.int .i64 32) (.int .i64 32)).run Tryd.prog w = .ok (.slice (some ⟨w.heap.size, 0, none⟩) 32 32) w1 := hmk
  clear hmk
  have HS := Lib.hid (And.intro hg1 hb1); clear hg1 hb1
  have HP := Lib.hid hP; clear hP
  have HL := Lib.hid hl; clear hl
  go_enter Tryd.func17, Tryd.ntmps17
  go_wp2
  clear hmk'
  go_loopw [4] (fun v wr => ∃ (i : Nat) (c : List Nat), i ≤ len ∧ i ≤ 100 ∧ v = .int .i64 i ∧ c.length = 32 ∧ (∀ i, c.getD i 0 < 256) ∧ w.grownBy wr none ∧ Blk wr w.heap.size 5 (c.map u8N)) (fun v _ => 100 - (intOf v).toNat)
  case atStart => exact ⟨0, List.replicate 32 0, by omega, by omega, rfl, by simp, fun i => by rw [List.getD_eq_getElem?_getD, List.getElem?_replicate]; split <;> simp, HS.out.1, by simpa using HS.out.2⟩
  case round =>
    clear HS
    obtain ⟨i, c, hi, hi2, rfl, hcl, hcb, hg, hb⟩ := hrel
    by_cases hil : i < len
    · have i0 : (i : Int) < len := by omega
      by_cases hi3 : i < 100
      · have i1 : (i : Int) < 100 := by omega
        have hr := rem32 i
        obtain ⟨pb, po, rfl, hpb, hpc⟩ := HP.out.cells.resolve_left (by rw [HL.out]; omega)
        have hne : pb ≠ w.heap.size := by have := HP.out.lim; omega
        have c1 := (gb_cell hg (p := ⟨pb, po + i, none⟩) (show pb < _ from Nat.lt_of_lt_of_le hpb HP.out.lim) (by simp)).trans (hpc i (by rw [HL.out]; exact hil))
        obtain ⟨k, hk⟩ : ∃ k, k = i % 32 := ⟨_, rfl⟩
        have hk32 : k < 32 := by omega
        rw [← hk] at hr
        have c2 := hb.cell (u8_getD (l := c) (i := k) (by omega))
        have f2 := hb.free k
        obtain ⟨x, hx, hxo⟩ := xor_bytes (c.getD k 0) (l.getD i 0) (hcb k) (HP.out.byte i)
        unfold u8N at c1 c2
        generalize c.getD k 0 = cv at *
        generalize l.getD i 0 = lv at *
        clear hpc hk
        have hb2 := hb.set k (u8N x)
        rw [set_u8] at hb2
        have hg2 := gb_set_new hg (p := ⟨w.heap.size, k, none⟩) (Nat.le_refl _) (u8N x)
        have hcb2 : ∀ j, (c.set k x).getD j 0 < 256 := fun j => set_lt c k x hcb hx j
        unfold u8N at hb2 hg2
        have HN := Lib.hid (And.intro hb2 (And.intro hg2 (And.intro hcb2 (And.intro hcl hi)))); clear hb2 hg2 hcb2 hb hg hcb
        go_upto_region 5 with (fail)
        go_region_with (simp only [hxo])
        all_goals go_wp2
        all_goals go_roundw
        all_goals first
          | exact ⟨i + 1, c.set k x, by omega, by omega, by go_num, by rw [List.length_set]; exact HN.out.2.2.2.1, HN.out.2.2.1, gb_drew HN.out.2.1, HN.out.1⟩
          | (simp [intOf]; omega)
      · have i1 : ¬ (i : Int) < 100 := by omega
        have HN := Lib.hid (And.intro hb (And.intro hg (And.intro hcb hcl))); clear hb hg hcb hcl
        go_wp2
        go_ret
        exact ⟨c, HN.out.2.2.2, HN.out.2.2.1, w.heap.size, by rw [HN.out.2.2.2]; rfl, HN.out.2.1, Nat.le_refl _, HN.out.1⟩
    · have i0 : ¬ (i : Int) < len := by omega
      have HN := Lib.hid (And.intro hb (And.intro hg (And.intro hcb hcl))); clear hb hg hcb hcl
      go_wp2
      go_ret
      exact ⟨c, HN.out.2.2.2, HN.out.2.2.1, w.heap.size, by rw [HN.out.2.2.2]; rfl, HN.out.2.1, Nat.le_refl _, HN.out.1⟩
end Go.Proofs.YtleegbaigedebaaDoor

/- edwards: the law's point. -/
namespace Go.Proofs.YtleegbaigedebaaDoor
open Go.RowKit Ow Go.Shelf Ed
set_option maxRecDepth 100000 in
set_option maxHeartbeats 12800000 in
theorem point4_any (B len cap : Nat) (a : Option Addr) (l : List Nat) (w0 : World) (HT0 : ETab w0) (hl : l.length = len) (hn : len ≤ 100) (HPB : Hid (BytesAt w0 B a cap l)) :
  Calls Tryd.prog 7 #[.slice a len cap] w0 fun e w' => ∃ r, PtOut r w0 e w' := by
 go_enter Tryd.func7, Tryd.ntmps7
 go_upto_region 1 with (fail)
 have G : w0.grownBy (w0.alloc (.cells zr20.toArray 28)) none := gb_alloc (gb_refl _ _) _
 have HT : ETab (w0.alloc (.cells zr20.toArray 28)) := HT0.grown (gb_alloc (gb_refl _ _) _)
 have hR : Blk (w0.alloc (.cells zr20.toArray 28)) (w0.heap.size) 28 zr20 := Blk.new w0 zr20 _
 revert G HT hR
 generalize w0.alloc (.cells zr20.toArray 28) = W0
 intro G HT hR
 have Gs := G.size
 refine wp_region_lit ?_
 refine Fg.wpl_value (v := .slice a len cap) (w' := W0) rfl (Fg.run_move rfl rfl) ?_
 refine Fg.wpl_call rfl (Fg.run_call (vs := #[.slice a len cap]) rfl rfl (by simp only [List.map_toArray, List.map_cons, List.map_nil, Act.eval]; rfl) (Fg.run_enter Tryd.func16 (by kernel_rfl) (by kernel_rfl))) ?_
 refine (edGet B len cap a l W0 HT hl (by omega) (HPB.out.stay G)).mono ?_
 rintro e V1 ⟨t, b, rfl, g1, hyes, _⟩
 refine ⟨_, rfl, ?_⟩
 replace hR := hR.gn g1
 replace G := gb_trans G g1
 replace HT := HT.grown g1
 clear g1
 have HY := Lib.hid hyes; clear hyes
 refine Fg.wpl_value (v := .tuple #[t.v, .bool b]) (w' := V1) rfl (Fg.run_move rfl rfl) ?_
 refine Fg.wpl_value (v := t.v) (w' := V1) rfl (Fg.run_extract rfl rfl rfl) ?_
 refine Fg.wpl_value (v := .bool b) (w' := V1) rfl (Fg.run_extract rfl rfl rfl) ?_
 refine Fg.wpl_value (v := .pointer (some ⟨V1.heap.size, 0, none⟩)) (w' := V1.alloc (.cells zr20.toArray 28)) rfl (by go_simp) ?_
 have hw3 : w0.heap.size ≤ V1.heap.size := G.size
 have hb3 := Blk.new V1 zr20 28
 have l1hR := hR.lt
 have ga3 := gb_alloc (gb_refl V1 none) (.cells zr20.toArray 28)
 replace hR := hR.gn ga3
 replace G := gb_trans G ga3
 replace HT := HT.grown ga3
 clear ga3
 obtain ⟨N3, hN3⟩ : ∃ x, x = V1.heap.size := ⟨_, rfl⟩
 rw [← hN3] at hb3 hw3 ⊢
 rw [← hN3] at l1hR
 revert hR G HT hb3
 generalize (V1.alloc (.cells zr20.toArray 28)) = V2
 intro hR G HT hb3
 clear hN3
 refine Fg.wpl_skip rfl rfl (Fg.run_store (cs := ptL t) rfl rfl rfl (hb3.there 0 20 (by show 0 + 20 ≤ 20; decide)) info_point (ptL_one _)) ?_
 replace hR := hR.setCells_other (C := N3) (cs := ptL t) 0 (by omega)
 replace hb3 : Blk (V2.setCells N3 0 (ptL t)) N3 28 (ptL t) := hb3.setAll rfl
 replace G := gb_setCells_new (cs := ptL t) G (B := N3) (hw3) 0
 replace HT := HT.keep (gb_setCells (cs := ptL t) (gb_refl _ (some N3)) 0) (HT0.noG (hw3))
 revert hR hb3 G HT
 generalize V2.setCells N3 0 (ptL t) = W1
 intro hR hb3 G HT
 refine Fg.wpl_value (v := .bool b) (w' := W1) rfl (Fg.run_assign rfl rfl) ?_
 refine wpList_nil ?_
 cases b with
 | true =>
  obtain ⟨r, ht, _⟩ := HY.out rfl
  go_upto_region 3 with (fail)
  have Gs1 := G.size
  have l2hR := hR.lt
  have l2hb3 := hb3.lt
  refine Fg.rP [] [.any, .any, .any, .any, .any, .any, .any, .any, .any, .any, .any, .val (t.v)] 1 ?_ ?_
  ·refine Fg.vS rfl (by decide) (fun ac w h => ?_) ?_
   ·have e3 : _ = Value.pointer (some ⟨N3, 0, none⟩) := h.r 3
    exact Fg.vn t.v (Fg.run_load rfl e3 ((hb3.gn h.base).range 0 (ptL t) rfl) Tryd.underlying28 rfl info_point)
   trivial
  ·intro qa V2 g2 hsz hdf hrest hslots hpt
   obtain ⟨u5, hs5⟩ := Fg.slotv qa 5
   obtain ⟨u6, hs6⟩ := Fg.slotv qa 6
   obtain ⟨u7, hs7⟩ := Fg.slotv qa 7
   obtain ⟨u8, hs8⟩ := Fg.slotv qa 8
   obtain ⟨u9, hs9⟩ := Fg.slotv qa 9
   obtain ⟨u10, hs10⟩ := Fg.slotv qa 10
   obtain rfl := Fg.frame_by [5, 6, 7, 8, 9, 10, 11] (vs := [Value.slice a len cap, undef, Value.pointer (some ⟨w0.heap.size, 0, none⟩), Value.pointer (some ⟨N3, 0, none⟩), Value.bool true, u5, u6, u7, u8, u9, u10, t.v, undef, undef, undef, undef]) hsz hrest (by kernel_rfl) rfl rfl ⟨hs5, hs6, hs7, hs8, hs9, hs10, (show qa.tmps.getD 11 undef = t.v from hslots 11 (by kernel_rfl)), trivial⟩ hdf
   clear hsz hdf hrest hslots hpt hs5 hs6 hs7 hs8 hs9 hs10
   replace hR := hR.gn g2
   replace hb3 := hb3.gn g2
   replace G := gb_trans G g2
   replace HT := HT.grown g2
   clear g2
   refine Fg.wpl_skip rfl rfl (Fg.run_store (cs := ptL t) rfl rfl rfl (hR.there 0 20 (by show 0 + 20 ≤ 20; decide)) info_point (ptL_one _)) ?_
   replace hR : Blk (V2.setCells w0.heap.size 0 (ptL t)) w0.heap.size 28 (ptL t) := hR.setAll rfl
   replace hb3 := hb3.setCells_other (C := w0.heap.size) (cs := ptL t) 0 (by omega)
   replace G := gb_setCells_new (cs := ptL t) G (B := w0.heap.size) (by omega) 0
   replace HT := HT.keep (gb_setCells (cs := ptL t) (gb_refl _ (some w0.heap.size)) 0) (HT0.noG (by omega))
   revert hR hb3 G HT
   generalize V2.setCells w0.heap.size 0 (ptL t) = W3
   intro hR hb3 G HT
   go_wp2_with fail
   exact bodyPost_ret (v := t.v) (results_cell_row Tryd.results7 _ _ w0.heap.size 28 (ptL t).toArray (0, 0) _ rfl hR Tryd.underlying28 rfl info_point) rfl ⟨r, _, ht, rfl, G⟩
 | false =>
  go_upto_region 4 with (fail)
  refine wp_region_lit ?_
  refine Fg.wpl_value (v := .slice a len cap) (w' := W1) rfl (Fg.run_move rfl rfl) ?_
  refine Fg.wpl_call rfl (Fg.run_call (vs := #[.slice a len cap]) rfl rfl (by simp only [List.map_toArray, List.map_cons, List.map_nil, Act.eval]; rfl) (Fg.run_enter Tryd.func17 (by kernel_rfl) (by kernel_rfl))) ?_
  refine (fold_any B len cap a l W1 hl (HPB.out.stay G)).mono ?_
  rintro e V5 ⟨l', hl', hb', ho⟩
  obtain ⟨gg, rfl, g5, hBA⟩ := outB_bytes ho hl' hb'
  refine ⟨_, rfl, ?_⟩
  clear ho
  replace hR := hR.gn g5
  replace hb3 := hb3.gn g5
  replace G := gb_trans G g5
  replace HT := HT.grown g5
  clear g5
  refine Fg.wpl_call rfl (Fg.run_call (vs := #[]) rfl rfl (by simp) (Fg.run_enter Tryd.func19 (by kernel_rfl) (by kernel_rfl))) ?_
  refine (edBase V5 HT).mono ?_
  rintro e V6 ⟨rfl, g6⟩
  refine ⟨_, rfl, ?_⟩
  replace hBA := hBA.stay g6
  replace hR := hR.gn g6
  replace hb3 := hb3.gn g6
  replace G := gb_trans G g6
  replace HT := HT.grown g6
  clear g6
  refine Fg.wpl_call rfl (Fg.run_call (vs := #[.slice (some ⟨gg, 0, none⟩) 32 32, baseT.v]) rfl rfl (by simp only [List.map_toArray, List.map_cons, List.map_nil, Act.eval]; rfl) (Fg.run_enter Tryd.func21 (by kernel_rfl) (by kernel_rfl))) ?_
  refine (edMul baseT baseR l' 32 V5.heap.size (some ⟨gg, 0, none⟩) V6 HT baseIs hl' (Lib.hid hBA)).mono ?_
  rintro e V7 ⟨t7, ht7, rfl, g7⟩
  refine ⟨_, rfl, ?_⟩
  have Ht7 := Lib.hid ht7; clear ht7 hBA
  replace hR := hR.gn g7
  replace hb3 := hb3.gn g7
  replace G := gb_trans G g7
  replace HT := HT.grown g7
  clear g7
  refine Fg.wpl_skip rfl rfl (Fg.run_store (cs := ptL t7) rfl rfl rfl (hR.there 0 20 (by show 0 + 20 ≤ 20; decide)) info_point (ptL_one _)) ?_
  replace hR : Blk (V7.setCells w0.heap.size 0 (ptL t7)) w0.heap.size 28 (ptL t7) := hR.setAll rfl
  replace hb3 := hb3.setCells_other (C := w0.heap.size) (cs := ptL t7) 0 (by omega)
  replace G := gb_setCells_new (cs := ptL t7) G (B := w0.heap.size) (by omega) 0
  replace HT := HT.keep (gb_setCells (cs := ptL t7) (gb_refl _ (some w0.heap.size)) 0) (HT0.noG (by omega))
  revert hR hb3 G HT
  generalize V7.setCells w0.heap.size 0 (ptL t7) = W2
  intro hR hb3 G HT
  refine wpList_nil ?_
  go_wp2_with fail
  exact bodyPost_ret (v := t7.v) (results_cell_row Tryd.results7 _ _ w0.heap.size 28 (ptL t7).toArray (0, 0) _ rfl hR Tryd.underlying28 rfl info_point) rfl ⟨_, t7, Ht7.out, rfl, G⟩

end Go.Proofs.YtleegbaigedebaaDoor

/- edwards: a number's 32 bytes as a list; what Get tells of the bytes that Put told. -/
namespace Go.Proofs.YtleegbaigedebaaDoor
open Go.RowKit Ow Ed
def digL (x : Int) : List Nat := (List.range 32).map fun i => (x / 2 ^ (8 * i) % 256).toNat
theorem digL_len (x : Int) : (digL x).length = 32 := by simp [digL]
theorem digL_get (x : Int) (i : Nat) (h : i < 32) : (digL x).getD i 0 = (x / 2 ^ (8 * i) % 256).toNat := by
  simp [digL, List.getD_eq_getElem?_getD, List.getElem?_map, List.getElem?_range h]
theorem digL_v (x : Int) : (digL x).map u8N = bytesV x := by
  unfold digL bytesV
  rw [List.map_map]
  apply List.map_congr_left
  intro i _
  show Value.int .u8 (((x / 2 ^ (8 * i) % 256).toNat : Nat) : Int) = bytV x i
  rw [Int.toNat_of_nonneg (Int.emod_nonneg _ (by decide))]
  rfl
theorem digL_lt (x : Int) (i : Nat) : (digL x).getD i 0 < 256 := by
  by_cases h : i < 32
  · rw [digL_get x i h]
    have h1 := Int.emod_nonneg (x / 2 ^ (8 * i)) (show (256 : Int) ≠ 0 by decide)
    have h2 := Int.emod_lt_of_pos (x / 2 ^ (8 * i)) (show (0 : Int) < 256 by decide)
    omega
  · rw [List.getD_eq_getElem?_getD, List.getElem?_eq_none (by rw [digL_len]; omega)]
    decide
theorem num_digL {x : Int} (h0 : 0 ≤ x) (h1 : x < 115792089237316195423570985008687907853269984665640564039457584007913129639936) : numI (digL x) = x := by
  unfold numI
  rw [word_congr (G := fun i => x / 2 ^ (8 * i) % 256) 32 (fun i hi => by
    rw [digL_get x i hi, Int.toNat_of_nonneg (Int.emod_nonneg _ (by decide))]), wordOf_bytes]
  have e256 : (2 : Int) ^ (8 * 32) = 115792089237316195423570985008687907853269984665640564039457584007913129639936 := by decide
  rw [e256]
  exact Int.emod_eq_of_lt h0 h1
theorem digL_inj {x y : Int} (h0 : 0 ≤ x) (h1 : x < 115792089237316195423570985008687907853269984665640564039457584007913129639936) (k0 : 0 ≤ y) (k1 : y < 115792089237316195423570985008687907853269984665640564039457584007913129639936) (h : digL x = digL y) : x = y := by
  rw [← num_digL h0 h1, h, num_digL k0 k1]
theorem enc_bd (p : Pr) : 0 ≤ enc p ∧ enc p < 115792089237316195423570985008687907853269984665640564039457584007913129639936 := by
  unfold enc
  have h := val_lt p.y
  have h2 := Nat.mod_lt p.x.val (show 0 < 2 by decide)
  omega
theorem encL_inj {p q : Pr} (hp : On p) (hq : On q) : digL (enc p) = digL (enc q) ↔ p = q :=
  ⟨fun h => enc_inj hp hq (digL_inj (enc_bd p).1 (enc_bd p).2 (enc_bd q).1 (enc_bd q).2 h), fun h => by rw [h]⟩
theorem get_enc {p : Pr} (hp : On p) {w : World} {e : Ending} {w' : World} (h : GetOut (digL (enc p)) w e w') : ∃ t, PtIs t p ∧ e = .returned (.tuple #[t.v, .bool true]) ∧ w.grownBy w' none := by
  have hN := num_digL (enc_bd p).1 (enc_bd p).2
  obtain ⟨t, b, rfl, hg, hy, hn⟩ := h
  cases b with
  | false => exact absurd ⟨digL_len _, p, hp, hN.symm⟩ (hn rfl).2
  | true =>
    obtain ⟨q, hq, _, he⟩ := hy rfl
    obtain rfl : q = p := enc_inj hq.on hp (he.trans hN)
    exact ⟨t, hq, rfl, hg⟩
theorem edPutL {s : Pt} {p : Pr} (w : World) (hs : PtIs s p) : Calls Tryd.prog 15 #[s.v] w fun e w' => ∃ NB, e = .returned (.slice (some ⟨NB, 0, none⟩) 32 32) ∧ w.grownBy w' none ∧ w.heap.size ≤ NB ∧ Blk w' NB 79 ((digL (enc p)).map u8N) := by
  refine (edPut s w hs.ok).mono ?_
  rintro e w' ⟨NB, rfl, hg, hn, hb⟩
  rw [put_pr hs, ← digL_v] at hb
  exact ⟨NB, rfl, hg, hn, hb⟩
end Go.Proofs.YtleegbaigedebaaDoor

/- A law's arguments: slices of bytes, numbers. -/
namespace Go.Proofs.YtleegbaigedebaaDoor
open Go.ChangeShapes Go.WideShapes Go.ChangeAt Go.RowKit Ow

theorem laidMet_tail {P : Program} {x : String × DataW Unit} {rest : List (String × DataW Unit)} {W : World} (h : laidMet P (x :: rest) W) : laidMet P rest W := by
  obtain ⟨ps, ⟨g, t, cs, fuel, p, q, _, _, _, _, hq, rfl⟩, hn, hc⟩ := h
  exact ⟨q, hq, (List.nodup_append.1 hn).2.1, fun b off hm => hc b off (List.mem_append_right _ hm)⟩
theorem own : ownKnob Tryd.prog.godebug = none := by kernel_rfl
theorem laidOut : laidOutB Tryd.prog = true := by kernel_rfl
def nats (l : List Int) : List Nat := l.map Int.toNat
theorem bytes_arg {W : World} {x : Addr} {len cap : Nat} {zs : List Int} (ht : cap < 9223372036854775808) (hl : len ≤ cap) (hz : zs.length = cap) (hcell : ∀ i, i < zs.length → W.cell? (x.add i) = some (.int .u8 (zs.getD i 0))) (hw : ∀ n ∈ zs, (Lit.int .u8 n).wf = true) :
    BytesAt W W.heap.size (some x) cap (nats (zs.take len)) ∧ (nats (zs.take len)).length = len := by
  have hlen : (nats (zs.take len)).length = len := by simp [nats, hz]; omega
  have hbd : ∀ n ∈ zs, 0 ≤ n ∧ n < 256 := fun n hn => by
    have := hw n hn
    simp [Lit.wf, IntKind.min, IntKind.max, IntKind.signed, IntKind.bits] at this
    omega
  have hget : ∀ i, i < len → (((nats (zs.take len)).getD i 0 : Nat) : Int) = zs.getD i 0 := fun i hi => by
    have h1 : i < zs.length := by omega
    have := hbd zs[i] (List.getElem_mem h1)
    rw [List.getD_eq_getElem?_getD, List.getD_eq_getElem?_getD]
    unfold nats
    rw [List.getElem?_map, List.getElem?_take, if_pos hi, List.getElem?_eq_getElem h1]
    simp; omega
  refine ⟨⟨Nat.le_refl _, by omega, ht, fun i => ?_, ?_⟩, hlen⟩
  · by_cases hi : i < len
    · have h1 : i < zs.length := by omega
      have := hbd zs[i] (List.getElem_mem h1)
      have h2 := hget i hi
      rw [List.getD_eq_getElem?_getD (l := zs), List.getElem?_eq_getElem h1] at h2
      simp only [Option.getD_some] at h2
      omega
    · rw [List.getD_eq_getElem?_getD, List.getElem?_eq_none (by omega)]; decide
  · by_cases h0 : len = 0
    · exact Or.inl (by omega)
    · obtain ⟨b, off, spot⟩ := x
      have hc := hcell 0 (by omega)
      have hspot : spot = none := by simpa [Addr.add] using World.cell?_spot hc
      subst hspot
      have hadd : ∀ j, (⟨b, off, none⟩ : Addr).add j = ⟨b, off + j, none⟩ := fun j => by unfold Addr.add; split <;> simp_all
      have hlt : b < W.heap.size := block_lt_of_cell hc
      refine Or.inr ⟨b, off, rfl, hlt, fun i hi => ?_⟩
      rw [hlen] at hi
      have h3 := hcell i (by omega)
      rw [hadd, ← hget i hi] at h3
      exact h3

theorem bytes_open {H : Type} {enc : TypeId × Value → H} {W : World} {a : Option Addr} {len cap : Nat} {d : DataW H} {ps : List MemPlace} (h : DataW.Trod enc Tryd.prog W 0 (fun _ => true) true 22 (.slice a len cap) d ps) :
    ∃ p, p.length = len ∧ BytesAt W W.heap.size a cap p := by
  obtain ⟨fuel, hf⟩ := h
  rcases open_ints Tryd.underlying22 Tryd.underlying5 (by kernel_rfl) hf with ⟨hcs, _⟩ | ⟨x, l, c, zs, hcs, _, hl, hm, hz, _, hcell, hwz⟩
  · simp [Value.cells] at hcs
    obtain ⟨rfl, rfl, rfl⟩ := hcs
    exact ⟨[], rfl, ⟨Nat.le_refl _, Nat.le_refl _, by decide, by simp, Or.inl rfl⟩⟩
  · simp [Value.cells] at hcs
    obtain ⟨rfl, rfl, rfl⟩ := hcs
    unfold maxLen at hm
    have hb := bytes_arg (by omega) hl (by simpa using hz) hcell hwz
    exact ⟨_, hb.2, hb.1⟩
end Go.Proofs.YtleegbaigedebaaDoor

/- edwards: what the rows' lists give: the packages' variables. -/
namespace Go.Proofs.YtleegbaigedebaaDoor
open Go.ChangeShapes Go.WideShapes Go.ChangeAt Go.RowKit Ow Ed

def listF : List Int := [9007199254740916, 9007199254740988, 9007199254740988, 9007199254740988, 9007199254740988]
def listI : List Int := [1718705420411056, 234908883556509, 2233514472574048, 2117202627021982, 765476049583133]
def listD : List Int := [929955233495203, 466365720129213, 1662059464998953, 2033849074728123, 1442794654840575]
def listBX : List Int := [1738742601995546, 1146398526822698, 2070867633025821, 562264141797630, 587772402128613]
def listBY : List Int := [1801439850948184, 1351079888211148, 450359962737049, 900719925474099, 1801439850948198]
def listBZ : List Int := [1, 0, 0, 0, 0]
def listBT : List Int := [1841354044333475, 16398895984059, 755974180946558, 900171276175154, 1821297809914039]
def listO : List Int := [6346243789798364141, 1503914060200516822, 0, 1152921504606846976]
def baseData : DataW Unit := .agg [Lib.tabData .u64 listBX, Lib.tabData .u64 listBY, Lib.tabData .u64 listBZ, Lib.tabData .u64 listBT]
theorem laid_is : [("buttress/field.fourTimesP", Rows.laid_buttress_field_fourTimesP), ("buttress/field.rootOfMinusOne", Rows.laid_buttress_field_rootOfMinusOne), ("buttress/edwards.d", Rows.laid_buttress_edwards_d), ("buttress/edwards.base", Rows.laid_buttress_edwards_base)] =
    [("buttress/field.fourTimesP", Lib.tabData (H := Unit) .u64 listF), ("buttress/field.rootOfMinusOne", Lib.tabData .u64 listI), ("buttress/edwards.d", Lib.tabData .u64 listD), ("buttress/edwards.base", baseData)] := by kernel_rfl
theorem laid_order : Rows.laid_buttress_scalar_order = Lib.tabData (H := Unit) .u64 listO := by kernel_rfl
theorem laid_head {P : Program} {W : World} {name : String} {d : DataW Unit} {rest : List (String × DataW Unit)} {g : Nat} {t : TypeId} (hg : P.globalNamed name = some g) (hty : (P.globals[g]?).map (·.type) = some t) (h : laidMet P ((name, d) :: rest) W) :
    ∃ (enc : TypeId × Value → Unit) (base : Nat) (sp : Nat → Bool) (held : Bool) (cs : Array Value) (fuel : Nat) (p : List MemPlace), W.var? P name = some cs ∧ DataW.trod enc P W base sp held fuel t cs.toList = some (d, p) := by
  obtain ⟨ps, ⟨g', t', cs, fuel, p, q, hg', ht', hvar, hd, _, _⟩, _⟩ := h
  obtain rfl := Option.some.inj (hg.symm.trans hg')
  obtain rfl := Option.some.inj (hty.symm.trans ht')
  exact ⟨_, _, _, _, _, fuel, p, hvar, by simpa using hd⟩
theorem cells_elem : Tryd.prog.cellsOf 26 = 5 := by kernel_rfl
theorem cells_u64 : Tryd.prog.cellsOf 24 = 1 := by kernel_rfl
theorem cells_pt : Tryd.prog.cellsOf 28 = 20 := by kernel_rfl
theorem parts20 {cs a b c e : List Value} (hl : cs.length = 20) (h0 : (cs.drop 0).take 5 = a) (h1 : (cs.drop 5).take 5 = b) (h2 : (cs.drop 10).take 5 = c) (h3 : (cs.drop 15).take 5 = e) : cs = a ++ b ++ c ++ e := by
  subst h0 h1 h2 h3
  have e3 : (cs.drop 15).take 5 = cs.drop 15 := List.take_of_length_le (by rw [List.length_drop]; omega)
  rw [e3, List.drop_zero, List.append_assoc, List.append_assoc]
  have k2 := List.take_append_drop 5 (cs.drop 10)
  rw [List.drop_drop] at k2
  have k1 := List.take_append_drop 5 (cs.drop 5)
  rw [List.drop_drop] at k1
  have k0 := List.take_append_drop 5 cs
  rw [k2, k1, k0]
theorem trod_pt {enc : TypeId × Value → Unit} {W : World} {base fuel : Nat} {sp : Nat → Bool} {held : Bool} {cs : List Value} {p : List MemPlace} (h : DataW.trod enc Tryd.prog W base sp held fuel 28 cs = some (baseData, p)) :
    cs = listBX.map (fun z => Value.int .u64 z) ++ listBY.map (fun z => Value.int .u64 z) ++ listBZ.map (fun z => Value.int .u64 z) ++ listBT.map (fun z => Value.int .u64 z) := by
  cases fuel with
  | zero => simp [DataW.trod] at h
  | succ fuel =>
    simp only [DataW.trod, Tryd.underlying28, cells_pt] at h
    split at h
    · rename_i hl
      obtain ⟨xs, hm, hx⟩ := Option.map_eq_some_iff.1 h
      have hxs : xs.map (·.1) = [Lib.tabData .u64 listBX, Lib.tabData .u64 listBY, Lib.tabData .u64 listBZ, Lib.tabData .u64 listBT] := by
        have := congrArg Prod.fst hx
        simpa [baseData] using this
      obtain ⟨b0, e0, f0⟩ := Lib.mapM_at hm 0 _ rfl
      obtain ⟨b1, e1, f1⟩ := Lib.mapM_at hm 1 _ rfl
      obtain ⟨b2, e2, f2⟩ := Lib.mapM_at hm 2 _ rfl
      obtain ⟨b3, e3, f3⟩ := Lib.mapM_at hm 3 _ rfl
      have g0 : b0.1 = Lib.tabData .u64 listBX := by
        have := congrArg (·[0]?) hxs
        simpa [List.getElem?_map, e0] using this
      have g1 : b1.1 = Lib.tabData .u64 listBY := by
        have := congrArg (·[1]?) hxs
        simpa [List.getElem?_map, e1] using this
      have g2 : b2.1 = Lib.tabData .u64 listBZ := by
        have := congrArg (·[2]?) hxs
        simpa [List.getElem?_map, e2] using this
      have g3 : b3.1 = Lib.tabData .u64 listBT := by
        have := congrArg (·[3]?) hxs
        simpa [List.getElem?_map, e3] using this
      obtain ⟨x0, y0⟩ := b0
      obtain ⟨x1, y1⟩ := b1
      obtain ⟨x2, y2⟩ := b2
      obtain ⟨x3, y3⟩ := b3
      simp only [] at g0 g1 g2 g3
      subst g0 g1 g2 g3
      dsimp only at f0 f1 f2 f3
      have c0 := Lib.cells_of_tab Tryd.underlying26 Tryd.underlying24 cells_u64 cells_elem f0
      have c1 := Lib.cells_of_tab Tryd.underlying26 Tryd.underlying24 cells_u64 cells_elem f1
      have c2 := Lib.cells_of_tab Tryd.underlying26 Tryd.underlying24 cells_u64 cells_elem f2
      have c3 := Lib.cells_of_tab Tryd.underlying26 Tryd.underlying24 cells_u64 cells_elem f3
      rw [cells_elem] at c0 c1 c2 c3
      exact parts20 hl c0 c1 c2 c3
    · cases h
theorem range_of {W : World} {name : String} {g : Nat} {cs L : List Value} (hg : Tryd.prog.globalNamed name = some g) (h : W.var? Tryd.prog name = some cs.toArray) (hL : cs = L) : W.rangeAt g 0 L := fun j v hv => by
  have := World.var?_cell hg h j
  subst hL
  rw [Nat.zero_add, this]
  simpa using hv
theorem tables {W : World} (h : laidMet Tryd.prog [("buttress/field.fourTimesP", Rows.laid_buttress_field_fourTimesP), ("buttress/field.rootOfMinusOne", Rows.laid_buttress_field_rootOfMinusOne), ("buttress/edwards.d", Rows.laid_buttress_edwards_d), ("buttress/edwards.base", Rows.laid_buttress_edwards_base)] W) : ETab W := by
  rw [laid_is] at h
  have g0 : Tryd.prog.globalNamed "buttress/field.fourTimesP" = some 2 := by kernel_rfl
  have g1 : Tryd.prog.globalNamed "buttress/field.rootOfMinusOne" = some 3 := by kernel_rfl
  have g2 : Tryd.prog.globalNamed "buttress/edwards.d" = some 0 := by kernel_rfl
  have g3 : Tryd.prog.globalNamed "buttress/edwards.base" = some 1 := by kernel_rfl
  have h0 := Lib.tabIs_of_head g0 (by kernel_rfl) Tryd.underlying26 Tryd.underlying24 (by kernel_rfl) (by kernel_rfl) h
  have h1 := Lib.tabIs_of_head g1 (by kernel_rfl) Tryd.underlying26 Tryd.underlying24 (by kernel_rfl) (by kernel_rfl) (laidMet_tail h)
  have h2 := Lib.tabIs_of_head g2 (by kernel_rfl) Tryd.underlying26 Tryd.underlying24 (by kernel_rfl) (by kernel_rfl) (laidMet_tail (laidMet_tail h))
  obtain ⟨_, _, _, _, cs, _, _, hvar, hd⟩ := laid_head (t := 28) g3 (by kernel_rfl) (laidMet_tail (laidMet_tail (laidMet_tail h)))
  have hp : ∀ i, i < 5 → W.cell? ⟨2, i, none⟩ = some (.int .u64 (fourP i)) := fun i hi => by
    rw [h0.cell g0 i hi]
    obtain rfl | rfl | rfl | rfl | rfl : i = 0 ∨ i = 1 ∨ i = 2 ∨ i = 3 ∨ i = 4 := by omega
    all_goals rfl
  have hq : ∀ i, i < 5 → W.cell? ⟨3, i, none⟩ = some (.int .u64 (rootI.at i)) := fun i hi => by
    rw [h1.cell g1 i hi]
    obtain rfl | rfl | rfl | rfl | rfl : i = 0 ∨ i = 1 ∨ i = 2 ∨ i = 3 ∨ i = 4 := by omega
    all_goals rfl
  have hr2 : W.rangeAt 0 0 (feL dF) := range_of g2 h2 rfl
  have hr3 : W.rangeAt 1 0 (ptL baseT) := range_of g3 (by rw [hvar, Array.toArray_toList]) (trod_pt hd)
  have l0 := block_lt_of_cell (hp 0 (by decide))
  have l1 := block_lt_of_cell (hq 0 (by decide))
  have l2 := block_lt_of_cell (hr2 0 _ rfl)
  have l3 := block_lt_of_cell (hr3 0 _ rfl)
  simp only [] at l0 l1 l2 l3
  exact ⟨⟨⟨l0, l1⟩, hp, hq⟩, l2, l3, hr2, hr3⟩
theorem tablesO {W : World} (h : laidMet Tryd.prog [("buttress/scalar.order", Rows.laid_buttress_scalar_order), ("buttress/field.fourTimesP", Rows.laid_buttress_field_fourTimesP), ("buttress/field.rootOfMinusOne", Rows.laid_buttress_field_rootOfMinusOne), ("buttress/edwards.d", Rows.laid_buttress_edwards_d), ("buttress/edwards.base", Rows.laid_buttress_edwards_base)] W) : OTab W ∧ ETab W := by
  refine ⟨?_, tables (laidMet_tail h)⟩
  rw [laid_order] at h
  have g0 : Tryd.prog.globalNamed "buttress/scalar.order" = some 4 := by kernel_rfl
  have h0 := Lib.tabIs_of_head g0 (by kernel_rfl) Tryd.underlying68 Tryd.underlying24 (by kernel_rfl) (by kernel_rfl) h
  have hp : ∀ i, i < 4 → W.cell? ⟨4, i, none⟩ = some (u64N (Sc.lw i)) := fun i hi => by
    rw [h0.cell g0 i hi]
    obtain rfl | rfl | rfl | rfl : i = 0 ∨ i = 1 ∨ i = 2 ∨ i = 3 := by omega
    all_goals rfl
  exact ⟨block_lt_of_cell (hp 0 (by decide)), hp⟩
def putObj (l : List Int) : Obj → Obj
  | .cells _ t frozen => .cells (l.map (Value.int .u64)).toArray t frozen
  | o => o
noncomputable def laidWorld (os : Os) : World :=
  { World.holding Tryd.prog os ⟨#[], #[], []⟩ with heap := (((((World.holding Tryd.prog os ⟨#[], #[], []⟩).heap.modify 2 (putObj listF)).modify 3 (putObj listI)).modify 0 (putObj listD)).modify 1 (putObj (listBX ++ listBY ++ listBZ ++ listBT))).modify 4 (putObj listO) }
end Go.Proofs.YtleegbaigedebaaDoor

/- The kit's SameBytes: whether two slices hold the same bytes. -/
namespace Go.Proofs.YtleegbaigedebaaDoor
open Go.RowKit Ow

theorem getD_at (l : List Nat) (i : Nat) (h : i < l.length) : l.getD i 0 = l[i] := by rw [List.getD_eq_getElem?_getD, List.getElem?_eq_getElem h]; rfl
theorem list_same {p q : List Nat} (h : p.length = q.length) (hi : ∀ i, i < p.length → p.getD i 0 = q.getD i 0) : p = q := by
  apply List.ext_getElem h
  intro i h1 h2
  rw [← getD_at p i h1, ← getD_at q i h2]
  exact hi i h1
set_option maxHeartbeats 400000 in
theorem sameBytes_any (B1 B2 n m c1 c2 : Nat) (a1 a2 : Option Addr) (p q : List Nat) (w : World) (hn : p.length = n) (hm : q.length = m) (h1 : BytesAt w B1 a1 c1 p) (h2 : BytesAt w B2 a2 c2 q) :
    Calls Tryd.prog 14 #[.slice a1 n c1, .slice a2 m c2] w fun e w' => e = .returned (.bool (decide (p = q))) ∧ w.grownBy w' none := by
  have hn1 := h1.fits
  have hn2 := h2.fits
  have ht1 := h1.top
  have ht2 := h2.top
  rw [hn] at hn1
  rw [hm] at hn2
  have H1 := Lib.hid h1; clear h1
  have H2 := Lib.hid h2; clear h2
  have HN := Lib.hid hn; clear hn
  have HM := Lib.hid hm; clear hm
  by_cases hnm : n = m
  · subst hnm
    go_enter Tryd.func14, Tryd.ntmps14
    go_wp2
    go_loopw [5] (fun i wr => ∃ k j : Nat, k ≤ n ∧ i = .int .i64 k ∧ wr = w.drewN j ∧ ∀ i, i < k → p.getD i 0 = q.getD i 0) (fun i _ => n - (intOf i).toNat)
    case atStart => exact ⟨0, 0, by omega, rfl, rfl, fun i hi => absurd hi (by omega)⟩
    case round =>
      obtain ⟨k, j, hk, rfl, rfl, heq⟩ := hrel
      have HE := Lib.hid heq; clear heq
      by_cases hlt : k < n
      · obtain ⟨pb, po, rfl, _, hc⟩ := H1.out.cells.resolve_left (by rw [HN.out]; omega)
        obtain ⟨qb, qo, rfl, _, hd⟩ := H2.out.cells.resolve_left (by rw [HM.out]; omega)
        have k1 := hc k (by rw [HN.out]; exact hlt)
        have k2 := hd k (by rw [HM.out]; exact hlt)
        unfold u8N at k1 k2
        clear hc hd
        have i0 : (k : Int) < (n : Int) := by omega
        obtain ⟨x, hx⟩ : ∃ x, x = p.getD k 0 := ⟨_, rfl⟩
        obtain ⟨y, hy⟩ : ∃ y, y = q.getD k 0 := ⟨_, rfl⟩
        rw [← hx] at k1
        rw [← hy] at k2
        have HXY := Lib.hid (And.intro hx hy); clear hx hy
        by_cases hxy : x = y
        · subst hxy
          go_wp2_with fail
          go_quiet (fail)
          go_wp2
          go_roundw
          case rel => exact ⟨k + 1, _, by omega, by go_num, rfl, fun i hi => by
            rcases Nat.lt_or_ge i k with h | h
            · exact HE.out i h
            · obtain rfl : i = k := by omega
              rw [← HXY.out.1, ← HXY.out.2]⟩
          case measure => simp [intOf]; omega
        · have hne : ¬ (x : Int) = (y : Int) := by omega
          have hpq : p ≠ q := fun e => hxy (by rw [HXY.out.1, HXY.out.2, e])
          have HPQ : Hid (decide (p = q) = false) := decide_eq_false hpq
          clear hpq hxy
          go_wp2_with fail
          go_quiet (fail)
          go_wp2
          go_ret
          exact ⟨by rw [HPQ.out]; rfl, ⟨rfl, rfl, rfl, Nat.le_refl _, fun _ _ _ => rfl⟩⟩
      · obtain rfl : k = n := by omega
        have hpq : p = q := list_same (by rw [HN.out, HM.out]) (fun i hi => HE.out i (by rw [HN.out] at hi; exact hi))
        have HPQ : Hid (decide (p = q) = true) := decide_eq_true hpq
        clear hlt hpq
        go_wp2
        go_ret
        exact ⟨by rw [HPQ.out]; rfl, ⟨rfl, rfl, rfl, Nat.le_refl _, fun _ _ _ => rfl⟩⟩
  · have hne : ¬ (n : Int) = (m : Int) := by omega
    have hpq : p ≠ q := fun e => hnm (by rw [← HN.out, ← HM.out, e])
    have HPQ : Hid (decide (p = q) = false) := decide_eq_false hpq
    clear hpq hnm
    go_enter Tryd.func14, Tryd.ntmps14
    go_wp2
    go_ret
    exact ⟨by rw [HPQ.out]; rfl, gb_refl _ _⟩
end Go.Proofs.YtleegbaigedebaaDoor

/- edwards' law on the group: mathematics, and small contracts. -/
namespace Go.Proofs.YtleegbaigedebaaDoor
open Go.RowKit Ow Ed
theorem yes_of {p q : Pr} (h : p = q) : true = true ↔ p = q := ⟨fun _ => h, fun _ => rfl⟩
section
variable {p q r : Pr}
theorem grp1 (hp : On p) (hq : On q) (hr : On r) : sumPr [sumPr [p, q], r] = sumPr [p, sumPr [q, r]] := add_assoc hp hq hr
theorem grp2 (hp : On p) (hq : On q) (hr : On r) : sumPr [sumPr [p, q], r] = sumPr [r, q, p] := by
  show Ed.add (Ed.add p q) r = Ed.add (Ed.add r q) p
  rw [Ed.add_comm p q, Ed.add_comm (Ed.add q p) r, ← add_assoc hr hq hp]
theorem grp3 (hp : On p) : sumPr [p, Ed.neg p] = zero := add_neg hp
theorem grp4 : Ed.add p p = sumPr [p, p] := rfl
theorem grp5 (hp : On p) : sumPr [p, zero] = p := add_zero hp
end
theorem bool_of (c : Prop) : ∃ b : Bool, b = true ↔ c := by
  by_cases h : c
  · exact ⟨true, by simp [h]⟩
  · exact ⟨false, by simp [h]⟩
theorem sameL (A B : Nat) (p q : Pr) (b : Bool) (w : World) (hp : On p) (hq : On q) (hb : b = true ↔ p = q) (hA : Blk w A 79 ((digL (enc p)).map u8N)) (hB : Blk w B 79 ((digL (enc q)).map u8N)) :
    Tells 14 #[.slice (some ⟨A, 0, none⟩) 32 32, .slice (some ⟨B, 0, none⟩) 32 32] w (.bool b) := by
  have h1 : BytesAt w w.heap.size (some ⟨A, 0, none⟩) 32 (digL (enc p)) := blk_bytes (tl := []) (by rw [List.append_nil]; exact hA) (digL_len _) (Nat.le_refl _) (by decide) (digL_lt _) hA.lt (Nat.le_refl _)
  have h2 : BytesAt w w.heap.size (some ⟨B, 0, none⟩) 32 (digL (enc q)) := blk_bytes (tl := []) (by rw [List.append_nil]; exact hB) (digL_len _) (Nat.le_refl _) (by decide) (digL_lt _) hB.lt (Nat.le_refl _)
  have e : decide (digL (enc p) = digL (enc q)) = b := Bool.eq_iff_iff.2 (by rw [decide_eq_true_iff, encL_inj hp hq]; exact hb.symm)
  have := sameBytes_any w.heap.size w.heap.size 32 32 32 32 _ _ _ _ w (digL_len _) (digL_len _) h1 h2
  rwa [e] at this
theorem run_neq_same {ρ : Operand → Value} {o : Oper} {w : World} {x y : Operand} {b : Bool} (ho : o.op = .binOp .neq 4 x y 4) (hx : ρ x = .bool b) (hy : ρ y = .bool b) : (execOp ρ o).run Tryd.prog w = .ok (.value (.bool false)) w := by
  unfold execOp
  simp only [ho, hx, hy]
  cases b <;> go_simp
end Go.Proofs.YtleegbaigedebaaDoor

/- edwards: what gather of two interleaved numbers comes to (mathematics). -/
namespace Go.Proofs.YtleegbaigedebaaDoor
open Go.RowKit Ow Ed
theorem sel_right {q u : Pr} (hq : On q) (hu : On u) (b : Bool) (k m : Nat) : sel b (nmul k q) (Ed.add u (nmul m q)) = Ed.add u (nmul (m + k * b.toNat) q) := by
  cases b with
  | false => rw [show m + k * false.toNat = m by simp]; rfl
  | true =>
    rw [show m + k * true.toNat = m + k by simp, nmul_add hq, ← add_assoc hu (nmul_on hq _) (nmul_on hq _)]
    rfl
theorem sel_left {p v : Pr} (hp : On p) (hv : On v) (b : Bool) (k m : Nat) : sel b (nmul k p) (Ed.add (nmul m p) v) = Ed.add (nmul (m + k * b.toNat) p) v := by
  rw [Ed.add_comm (nmul m p) v, sel_right hp hv, Ed.add_comm]
theorem sel_two {p q : Pr} (hp : On p) (hq : On q) (a b c e : Bool) : sel e (nmul 2 q) (sel c (nmul 2 p) (sel b q (sel a p zero))) = Ed.add (nmul (a.toNat + 2 * c.toNat) p) (nmul (b.toNat + 2 * e.toNat) q) := by
  have h0 : sel a p zero = Ed.add (nmul a.toNat p) (nmul 0 q) := by rw [sel_zero hp]; exact (add_zero (nmul_on hp _)).symm
  have h1 := sel_right hq (nmul_on hp a.toNat) b 1 0
  rw [nmul_one hq] at h1
  rw [h0, h1, sel_left hp (nmul_on hq _), sel_right hq (nmul_on hp _)]
  congr 2
  omega
def ilv (M N j : Nat) : Bool := if j % 2 = 0 then decide (M / 2 ^ (j / 2) % 2 = 1) else decide (N / 2 ^ (j / 2) % 2 = 1)
theorem ilv0 (M N g : Nat) : ilv M N (4 * g) = decide (M / 2 ^ (2 * g) % 2 = 1) := by unfold ilv; rw [if_pos (by omega), show 4 * g / 2 = 2 * g by omega]
theorem ilv1 (M N g : Nat) : ilv M N (4 * g + 1) = decide (N / 2 ^ (2 * g) % 2 = 1) := by unfold ilv; rw [if_neg (by omega), show (4 * g + 1) / 2 = 2 * g by omega]
theorem ilv2 (M N g : Nat) : ilv M N (4 * g + 2) = decide (M / 2 ^ (2 * g + 1) % 2 = 1) := by unfold ilv; rw [if_pos (by omega), show (4 * g + 2) / 2 = 2 * g + 1 by omega]
theorem ilv3 (M N g : Nat) : ilv M N (4 * g + 3) = decide (N / 2 ^ (2 * g + 1) % 2 = 1) := by unfold ilv; rw [if_neg (by omega), show (4 * g + 3) / 2 = 2 * g + 1 by omega]
theorem two_bits (n g : Nat) : (decide (n / 2 ^ (2 * g) % 2 = 1)).toNat + 2 * (decide (n / 2 ^ (2 * g + 1) % 2 = 1)).toNat = n / 2 ^ (2 * g) % 4 := by
  have hd : ∀ x : Nat, (decide (x % 2 = 1)).toNat = x % 2 := fun x => by
    rcases Nat.mod_two_eq_zero_or_one x with h | h <;> rw [h] <;> rfl
  simp only [hd, Nat.pow_add, ← Nat.div_div_eq_div_mul]
  generalize n / 2 ^ (2 * g) = x
  omega
theorem hi2_step (n G k : Nat) (hk : k < G) : n / 2 ^ (2 * (G - (k + 1))) = 4 * (n / 2 ^ (2 * (G - k))) + n / 2 ^ (2 * (G - 1 - k)) % 4 := by
  rw [show G - (k + 1) = G - 1 - k by omega, show 2 * (G - k) = 2 * (G - 1 - k) + 2 by omega, Nat.pow_add, ← Nat.div_div_eq_div_mul]
  generalize n / 2 ^ (2 * (G - 1 - k)) = x
  omega
theorem gth_both {p q : Pr} (hp : On p) (hq : On q) (M N G : Nat) (hM : M < 2 ^ (2 * G)) (hN : N < 2 ^ (2 * G)) : ∀ k, k ≤ G →
    gthTo 2 (chs [p, q, nmul 2 p, nmul 2 q]) (grpsTo (ilv M N) G k) = Ed.add (nmul (M / 2 ^ (2 * (G - k))) p) (nmul (N / 2 ^ (2 * (G - k))) q)
  | 0, _ => by
    rw [Nat.sub_zero, Nat.div_eq_of_lt hM, Nat.div_eq_of_lt hN]
    exact (add_zero zero_on).symm
  | k + 1, hk => by
    have ih := gth_both hp hq M N G hM hN k (by omega)
    rw [grpsTo_succ, gthTo_snoc, ih, gthStep_is 2 _ _ _ _ _ _ _ _ (add_on (nmul_on hp _) (nmul_on hq _)), sel_two hp hq, ilv0, ilv1, ilv2, ilv3, two_bits, two_bits, nmul_sum (nmul_on hp _) (nmul_on hq _), ← nmul_mul hp, ← nmul_mul hq, add4 (nmul_on hp _) (nmul_on hq _) (nmul_on hp _) (nmul_on hq _), ← nmul_add hp, ← nmul_add hq, hi2_step M G k (by omega), hi2_step N G k (by omega), Nat.mul_comm 4, Nat.mul_comm 4]
end Go.Proofs.YtleegbaigedebaaDoor

/- edwards: interleave. -/
namespace Go.Proofs.YtleegbaigedebaaDoor
open Go.RowKit Ow Go.Shelf
theorem elt_bool : ∃ z, Elt 4 76 1 z := by
 obtain ⟨i, z, hi, hz, hs, hb, hc⟩ := info_bool
 exact ⟨z, Tryd.underlying76, i, hi, hz, hs, hb, hc⟩
def ilvV (x y : Nat → Bool) : Nat → List Value
 | 0 => []
 | k + 1 => ilvV x y k ++ [.bool (x k), .bool (y k)]
theorem ilvV_length (x y : Nat → Bool) : ∀ k, (ilvV x y k).length = 2 * k
 | 0 => rfl
 | k + 1 => by rw [ilvV, List.length_append, ilvV_length x y k]; rfl
theorem ilvV_get (x y : Nat → Bool) : ∀ k j, j < 2 * k → (ilvV x y k)[j]? = some (.bool (if j % 2 = 0 then x (j / 2) else y (j / 2)))
 | 0, j, h => by omega
 | k + 1, j, h => by
  rw [ilvV]
  by_cases hj : j < 2 * k
  ·rw [List.getElem?_append_left (by rw [ilvV_length]; exact hj)]
   exact ilvV_get x y k j hj
  ·rw [List.getElem?_append_right (by rw [ilvV_length]; omega), ilvV_length]
   obtain rfl | rfl : j = 2 * k ∨ j = 2 * k + 1 := by omega
   ·rw [Nat.sub_self, if_pos (by omega), show 2 * k / 2 = k by omega]; rfl
   ·rw [show 2 * k + 1 - 2 * k = 1 by omega, if_neg (by omega), show (2 * k + 1) / 2 = k by omega]; rfl
set_option maxRecDepth 100000 in
set_option maxHeartbeats 3200000 in
theorem ilv_any (ga gb : Nat) (x y : Nat → Bool) (w0 : World) (hga : ga < w0.heap.size) (hgb : gb < w0.heap.size) (HX : Hid (∀ j, j < 256 → w0.cell? ⟨ga, j, none⟩ = some (.bool (x j)))) (HY : Hid (∀ j, j < 256 → w0.cell? ⟨gb, j, none⟩ = some (.bool (y j)))) :
  Calls Tryd.prog 50 #[.slice (some ⟨ga, 0, none⟩) 256 256, .slice (some ⟨gb, 0, none⟩) 256 256] w0 fun e w' => ∃ g, e = .returned (.slice (some ⟨g, 0, none⟩) 512 512) ∧ w0.grownBy w' none ∧ w0.heap.size ≤ g ∧ Blk w' g 4 (ilvV x y 256) := by
 obtain ⟨i, z, hi, hz, hs, hb, hcc⟩ := info_bool
 obtain ⟨w1, hmk, ho1, hg1⟩ := run_make_own w0 w0.heap.size 76 4 i z 1 (P := Tryd.prog) Tryd.underlying76 hi hz hs .i64 .i64 512 (by rw [hb]; omega) (by unfold maxLen; omega) (Nat.le_refl _)
 have hmk' : (Instr.makeSlice 76 (.int .i64 0) (.int .i64 512)).run Tryd.prog w0 = .ok (.slice (some ⟨w0.heap.size, 0, none⟩) 0 512) w1 := hmk
 clear hmk hi hz hs hb hcc
 obtain ⟨z', hE⟩ := elt_bool
 have HS := Lib.hid (And.intro ho1 hg1); clear ho1 hg1
 go_enter Tryd.func50, Tryd.ntmps50
 go_wp2
 clear hmk'
 go_loopw [5, 15] (fun v5 i wr => ∃ (k : Nat) (U : World), U = wr ∧ k ≤ 256 ∧ i = .int .i64 k ∧ v5 = .slice (some ⟨w0.heap.size, 0, none⟩) (2 * k) 512 ∧ w0.grownBy U none ∧ U.ownsRow w0.heap.size 4 1 (.slice (some ⟨w0.heap.size, 0, none⟩) (2 * k) 512) (2 * k) (ilvV x y k)) (fun _ i _ => 256 - (intOf i).toNat)
 case atStart => exact ⟨0, w1, rfl, by decide, rfl, rfl, HS.out.2, HS.out.1⟩
 case round =>
  clear HS
  obtain ⟨k, U, rfl, hk, rfl, rfl, hg, ho⟩ := hrel
  by_cases h256 : k < 256
  ·have i0 : (k : Int) < 256 := by omega
   have HO := Lib.hid (And.intro hg ho); clear hg ho
   go_upto_region 5 with (fail)
   obtain ⟨G, ho⟩ := HO.out; clear HO
   have Gs0 := G.size
   refine Fg.rT [] [.any, .any, .any, .any, .any, .any, .any, .any, .any, .any, .any, .any, .any, .any, .any, .any, .any, .any, .val (Value.slice (some ⟨w0.heap.size, 0, none⟩) (2 * k) 512), .val (Value.slice (some ⟨ga, 0, none⟩) 256 256), .val (Value.int .i64 (k : Int)), .val (Value.pointer (some ⟨ga, k, none⟩)), .val (Value.bool (x k)), .val (Value.slice (some ⟨gb, 0, none⟩) 256 256), .val (Value.int .i64 (k : Int)), .val (Value.pointer (some ⟨gb, k, none⟩)), .val (Value.bool (y k)), .row 4 ([.bool (x k), .bool (y k)]) 2 U.heap.size] 10 ?_ ?_
   ·refine Fg.vS rfl (by decide) (fun ac w h => ?_) ?_
    ·have e5 : _ = Value.slice (some ⟨w0.heap.size, 0, none⟩) (2 * k) 512 := h.r 5
     exact Fg.vn (Value.slice (some ⟨w0.heap.size, 0, none⟩) (2 * k) 512) (Fg.run_move rfl e5)
    refine Fg.vS rfl (by decide) (fun ac w h => ?_) ?_
    ·have e0 : _ = Value.slice (some ⟨ga, 0, none⟩) 256 256 := h.r 0
     exact Fg.vn (Value.slice (some ⟨ga, 0, none⟩) 256 256) (Fg.run_move rfl e0)
    refine Fg.vS rfl (by decide) (fun ac w h => ?_) ?_
    ·have e6 : _ = Value.int .i64 (k : Int) := h.r 6
     exact Fg.vn (Value.int .i64 (k : Int)) (Fg.run_move rfl e6)
    refine Fg.vS rfl (by decide) (fun ac w h => ?_) ?_
    ·have e19 : _ = Value.slice (some ⟨ga, 0, none⟩) 256 256 := h.d 19
     have e20 : _ = Value.int .i64 (k : Int) := h.d 20
     refine ⟨wants_none rfl, Value.pointer (some ⟨ga, k, none⟩), w, ?_, gb_refl _ _, rfl⟩
     clear h
     simp only [execOp, Act.eval, e19, e20]
     go_simp
    refine Fg.vS rfl (by decide) (fun ac w h => ?_) ?_
    ·have e21 : _ = Value.pointer (some ⟨ga, k, none⟩) := h.d 21
     have hc : w.cell? ⟨ga, k, none⟩ = some (.bool (x k)) := (gb_cell (gb_trans G h.base) (p := ⟨ga, k, none⟩) hga (by simp)).trans (HX.out k h256)
     refine ⟨wants_none rfl, Value.bool (x k), w, ?_, gb_refl _ _, rfl⟩
     clear h
     simp only [execOp, Act.eval, e21]
     go_simp
    refine Fg.vS rfl (by decide) (fun ac w h => ?_) ?_
    ·have e1 : _ = Value.slice (some ⟨gb, 0, none⟩) 256 256 := h.r 1
     exact Fg.vn (Value.slice (some ⟨gb, 0, none⟩) 256 256) (Fg.run_move rfl e1)
    refine Fg.vS rfl (by decide) (fun ac w h => ?_) ?_
    ·have e6 : _ = Value.int .i64 (k : Int) := h.r 6
     exact Fg.vn (Value.int .i64 (k : Int)) (Fg.run_move rfl e6)
    refine Fg.vS rfl (by decide) (fun ac w h => ?_) ?_
    ·have e23 : _ = Value.slice (some ⟨gb, 0, none⟩) 256 256 := h.d 23
     have e24 : _ = Value.int .i64 (k : Int) := h.d 24
     refine ⟨wants_none rfl, Value.pointer (some ⟨gb, k, none⟩), w, ?_, gb_refl _ _, rfl⟩
     clear h
     simp only [execOp, Act.eval, e23, e24]
     go_simp
    refine Fg.vS rfl (by decide) (fun ac w h => ?_) ?_
    ·have e25 : _ = Value.pointer (some ⟨gb, k, none⟩) := h.d 25
     have hc : w.cell? ⟨gb, k, none⟩ = some (.bool (y k)) := (gb_cell (gb_trans G h.base) (p := ⟨gb, k, none⟩) hgb (by simp)).trans (HY.out k h256)
     refine ⟨wants_none rfl, Value.bool (y k), w, ?_, gb_refl _ _, rfl⟩
     clear h
     simp only [execOp, Act.eval, e25]
     go_simp
    refine Fg.vS rfl (by decide) (fun ac w h => ?_) ?_
    ·have e22 : _ = Value.bool (x k) := h.d 22
     have e26 : _ = Value.bool (y k) := h.d 26
     exact ⟨wants_none rfl, .slice (some ⟨w.heap.size, 0, none⟩) 2 2, w.alloc (.cells #[.bool (x k), .bool (y k)] 4), Fg.run_buildSlice (vs := #[(0, Value.bool (x k)), (1, Value.bool (y k))]) rfl (by simp only [List.map_toArray, List.map_cons, List.map_nil, Act.eval, e22, e26]) (by kernel_rfl), World.grownBy_alloc _ _ _, ⟨w.heap.size, rfl, h.base.size, Blk.new w [.bool (x k), .bool (y k)] _⟩⟩
    trivial
   ·intro qa V1 g1 hsz hdf hrest hslots hpt
    obtain ⟨u16, hs16⟩ := Fg.slotv qa 16
    obtain ⟨u17, hs17⟩ := Fg.slotv qa 17
    obtain ⟨u19, hs19⟩ := Fg.slotv qa 19
    obtain ⟨u20, hs20⟩ := Fg.slotv qa 20
    obtain ⟨u21, hs21⟩ := Fg.slotv qa 21
    obtain ⟨u22, hs22⟩ := Fg.slotv qa 22
    obtain ⟨u23, hs23⟩ := Fg.slotv qa 23
    obtain ⟨u24, hs24⟩ := Fg.slotv qa 24
    obtain ⟨u25, hs25⟩ := Fg.slotv qa 25
    obtain ⟨u26, hs26⟩ := Fg.slotv qa 26
    obtain ⟨N27, hs27, hn27, hb27⟩ : ∃ N, qa.tmps.getD 27 undef = .slice (some ⟨N, 0, none⟩) 2 2 ∧ U.heap.size ≤ N ∧ Blk V1 N 4 ([.bool (x k), .bool (y k)]) := hslots 27 (by kernel_rfl)
    obtain ⟨u28, hs28⟩ := Fg.slotv qa 28
    obtain ⟨u29, hs29⟩ := Fg.slotv qa 29
    obtain rfl := Fg.frame_by [16, 17, 18, 19, 20, 21, 22, 23, 24, 25, 26, 27, 28, 29] (vs := [Value.slice (some ⟨ga, 0, none⟩) 256 256, Value.slice (some ⟨gb, 0, none⟩) 256 256, undef, undef, Value.slice none 0 0, Value.slice (some ⟨w0.heap.size, 0, none⟩) (2 * k) 512, Value.int .i64 (k : Int), Value.slice (some ⟨ga, 0, none⟩) 256 256, Value.int .i64 256, Value.slice (some ⟨gb, 0, none⟩) 256 256, Value.int .i64 256, Value.int .i64 512, Value.slice (some ⟨w0.heap.size, 0, none⟩) 0 512, Value.slice (some ⟨ga, 0, none⟩) 256 256, Value.int .i64 256, Value.int .i64 (k : Int), u16, u17, Value.slice (some ⟨w0.heap.size, 0, none⟩) (2 * k) 512, u19, u20, u21, u22, u23, u24, u25, u26, Value.slice (some ⟨N27, 0, none⟩) 2 2, u28, u29, undef]) hsz hrest (by kernel_rfl) rfl rfl ⟨hs16, hs17, (show qa.tmps.getD 18 undef = Value.slice (some ⟨w0.heap.size, 0, none⟩) (2 * k) 512 from hslots 18 (by kernel_rfl)), hs19, hs20, hs21, hs22, hs23, hs24, hs25, hs26, hs27, hs28, hs29, trivial⟩ hdf
    clear hsz hdf hrest hslots hpt hs16 hs17 hs19 hs20 hs21 hs22 hs23 hs24 hs25 hs26 hs27 hs28 hs29
    replace G := gb_trans G g1
    have hw27 : w0.heap.size ≤ N27 := Nat.le_trans Gs0 hn27
    skip
    obtain ⟨_, w', hap, ho2, hg2⟩ | ⟨hno, _⟩ := append_cases hE V1 w0.heap.size w0.heap.size (2 * k) 512 (ilvV x y k) (ho.kept g1 (Or.inr (by simp [Value.ownBlock]))) ⟨N27, 0, none⟩ 2 2 [.bool (x k), .bool (y k)] rfl (fun j u hu => by rw [Addr.add_mid, Nat.zero_add]; exact hb27.cell hu) (by intro u hu; simp at hu; rcases hu with rfl | rfl <;> rfl) (by omega) (by omega)
    ·refine wpList_append_run rfl (.tmp 18) (.tmp 27) 76 rfl rfl _ _ rfl rfl _ _ hap ?_
     simp only [Act.put, List.setIfInBounds_toArray, List.set_cons_succ, List.set_cons_zero]
     refine Fg.wpl_value (v := .slice (some ⟨w0.heap.size, 0, none⟩) (2 * k + 2) 512) (w' := w') rfl (Fg.run_assign rfl rfl) ?_
     refine wpList_nil ?_
     simp only [Act.put, List.setIfInBounds_toArray, List.set_cons_succ, List.set_cons_zero]
     have G2 := gb_then G hg2 (Nat.le_refl _)
     have HN := Lib.hid (And.intro G2 ho2); clear G2 ho2 hg2 G ho hap hb27
     go_wp2
     go_roundw
     all_goals first
      | exact ⟨k + 1, _, rfl, by omega, by go_num, rfl, HN.out.1, HN.out.2⟩
      | (simp [intOf]; omega)
    ·omega
  ·have i0 : ¬ (k : Int) < 256 := by omega
   obtain rfl : k = 256 := by omega
   have HN := Lib.hid (And.intro hg ho); clear hg ho
   go_wp2
   go_ret
   obtain ⟨hbk, _⟩ := own_blk HN.out.2
   exact ⟨w0.heap.size, rfl, HN.out.1, Nat.le_refl _, hbk⟩

end Go.Proofs.YtleegbaigedebaaDoor

/- edwards: Both. -/
namespace Go.Proofs.YtleegbaigedebaaDoor
open Go.RowKit Ow Go.Shelf Ed
theorem grps_congr {b b' : Nat → Bool} (G : Nat) (h : ∀ j, j < 4 * G → b j = b' j) : grpsTo b G G = grpsTo b' G G := by
 unfold grpsTo
 apply List.map_congr_left
 intro t ht
 have ht2 : t < G := List.mem_range.1 ht
 apply Subtype.ext
 show grp b (G - 1 - t) = grp b' (G - 1 - t)
 unfold grp
 rw [h (4 * (G - 1 - t) + 3) (by omega), h (4 * (G - 1 - t) + 2) (by omega), h (4 * (G - 1 - t) + 1) (by omega), h (4 * (G - 1 - t)) (by omega)]
def ilB (l m : List Nat) (j : Nat) : Bool := if j % 2 = 0 then bitAt (fun i => l.getD i 0) (j / 2) else bitAt (fun i => m.getD i 0) (j / 2)
theorem ilB_num (l m : List Nat) (hl : l.length = 32) (hm : m.length = 32) (hb : ∀ i, l.getD i 0 < 256) (hc : ∀ i, m.getD i 0 < 256) (j : Nat) (hj : j < 4 * 128) : ilB l m j = ilv (num l) (num m) j := by
 unfold ilB ilv
 rw [bit_num l hl hb (j / 2) (by omega), bit_num m hm hc (j / 2) (by omega)]
theorem both_is {r q : Pr} (hr : On r) (hq : On q) (l m : List Nat) (hl : l.length = 32) (hm : m.length = 32) (hb : ∀ i, l.getD i 0 < 256) (hc : ∀ i, m.getD i 0 < 256) :
  gthTo 2 (chs [r, q, Ed.add r r, Ed.add q q]) (grpsTo (ilB l m) 128 128) = Ed.add (nmul (num l) r) (nmul (num m) q) := by
 have h2 : Ed.add r r = nmul 2 r := (nmul_two hr).symm
 have k2 : Ed.add q q = nmul 2 q := (nmul_two hq).symm
 have hM : num l < 2 ^ (2 * 128) := by have := num_lt l hb; rwa [hl] at this
 have hN : num m < 2 ^ (2 * 128) := by have := num_lt m hc; rwa [hm] at this
 rw [h2, k2, grps_congr 128 (ilB_num l m hl hm hb hc), gth_both hr hq (num l) (num m) 128 hM hN 128 (Nat.le_refl _), Nat.sub_self, Nat.mul_zero, Nat.pow_zero, Nat.div_one, Nat.div_one]
set_option maxRecDepth 100000 in
set_option maxHeartbeats 12800000 in
theorem edBoth (p : Pt) (r : Pr) (la lb : List Nat) (ca cb Ba Bb : Nat) (aa ab : Option Addr) (w0 : World) (HT0 : ETab w0) (hp : PtIs p r) (hla : la.length = 32) (hlb : lb.length = 32) (HPa : Hid (BytesAt w0 Ba aa ca la)) (HPb : Hid (BytesAt w0 Bb ab cb lb)) :
  Calls Tryd.prog 23 #[.slice aa 32 ca, p.v, .slice ab 32 cb] w0 fun e w' => PtOut (Ed.add (nmul (num la) r) (nmul (num lb) baseR)) w0 e w' := by
 show Calls Tryd.prog 23 #[.slice aa 32 ca, .agg (ptL p).toArray, .slice ab 32 cb] w0 _
 go_enter Tryd.func23, Tryd.ntmps23
 go_upto_region 1 with (fail)
 have G : w0.grownBy ((w0.alloc (.cells (ptL p).toArray 28)).alloc (.cells zr20.toArray 28)) none := gb_alloc (gb_alloc (gb_refl _ _) _) _
 have HT : ETab ((w0.alloc (.cells (ptL p).toArray 28)).alloc (.cells zr20.toArray 28)) := HT0.grown (gb_alloc (gb_alloc (gb_refl _ _) _) _)
 have hP : Blk ((w0.alloc (.cells (ptL p).toArray 28)).alloc (.cells zr20.toArray 28)) (w0.heap.size) 28 (ptL p) := (Blk.new w0 (ptL p) _).alloc _
 have hR : Blk ((w0.alloc (.cells (ptL p).toArray 28)).alloc (.cells zr20.toArray 28)) (w0.heap.size + 1) 28 zr20 := Blk.newAt (w0.alloc _) zr20 _ (by simp)
 revert G HT hP hR
 generalize (w0.alloc (.cells (ptL p).toArray 28)).alloc (.cells zr20.toArray 28) = W0
 intro G HT hP hR
 have Gs := G.size
 go_upto_region 5 with (fail)
 have Gs0 := G.size
 have l1hP := hP.lt
 have l1hR := hR.lt
 refine Fg.rP [] [.any, .any, .any, .any, .any, .any, .any, .any, .any, .any, .any, .any, .any, .any, .any, .any, .any, .any, .any, .any, .val (Value.slice aa 32 ca), .row 4 ((bitsTo (fun i => la.getD i 0) 256).map Value.bool) 256 W0.heap.size, .val (Value.slice ab 32 cb), .row 4 ((bitsTo (fun i => lb.getD i 0) 256).map Value.bool) 256 W0.heap.size] 4 ?_ ?_
 ·refine Fg.vS rfl (by decide) (fun ac w h => ?_) ?_
  ·have e0 : _ = Value.slice aa 32 ca := h.r 0
   exact Fg.vn (Value.slice aa 32 ca) (Fg.run_move rfl e0)
  refine Fg.cS rfl (by decide) (fun ac w h => ?_) ?_
  ·have e20 : _ = Value.slice aa 32 ca := h.d 20
   refine ⟨wants_none rfl, 49, #[Value.slice aa 32 ca], Fg.run_call rfl rfl (by simp only [List.map_toArray, List.map_cons, List.map_nil, Act.eval, e20]) (Fg.run_enter Tryd.func49 (by kernel_rfl) (by kernel_rfl)), ?_⟩
   exact (bits_row ca Ba aa la _ hla (HPa.out.stay (gb_trans G h.base))).mono fun _ _ ⟨NB, he, hg, hn, hb⟩ => ⟨_, he, hg, ⟨NB, rfl, Nat.le_trans h.base.size hn, hb⟩⟩
  refine Fg.vS rfl (by decide) (fun ac w h => ?_) ?_
  ·have e2 : _ = Value.slice ab 32 cb := h.r 2
   exact Fg.vn (Value.slice ab 32 cb) (Fg.run_move rfl e2)
  refine Fg.cS rfl (by decide) (fun ac w h => ?_) ?_
  ·have e22 : _ = Value.slice ab 32 cb := h.d 22
   refine ⟨wants_none rfl, 49, #[Value.slice ab 32 cb], Fg.run_call rfl rfl (by simp only [List.map_toArray, List.map_cons, List.map_nil, Act.eval, e22]) (Fg.run_enter Tryd.func49 (by kernel_rfl) (by kernel_rfl)), ?_⟩
   exact (bits_row cb Bb ab lb _ hlb (HPb.out.stay (gb_trans G h.base))).mono fun _ _ ⟨NB, he, hg, hn, hb⟩ => ⟨_, he, hg, ⟨NB, rfl, Nat.le_trans h.base.size hn, hb⟩⟩
  trivial
 ·intro qa V1 g1 hsz hdf hrest hslots hpt
  obtain ⟨u8, hs8⟩ := Fg.slotv qa 8
  obtain ⟨u9, hs9⟩ := Fg.slotv qa 9
  obtain ⟨u10, hs10⟩ := Fg.slotv qa 10
  obtain ⟨u14, hs14⟩ := Fg.slotv qa 14
  obtain ⟨u15, hs15⟩ := Fg.slotv qa 15
  obtain ⟨u16, hs16⟩ := Fg.slotv qa 16
  obtain ⟨u20, hs20⟩ := Fg.slotv qa 20
  obtain ⟨N21, hs21, hn21, hb21⟩ : ∃ N, qa.tmps.getD 21 undef = .slice (some ⟨N, 0, none⟩) 256 256 ∧ W0.heap.size ≤ N ∧ Blk V1 N 4 ((bitsTo (fun i => la.getD i 0) 256).map Value.bool) := hslots 21 (by kernel_rfl)
  obtain ⟨u22, hs22⟩ := Fg.slotv qa 22
  obtain ⟨N23, hs23, hn23, hb23⟩ : ∃ N, qa.tmps.getD 23 undef = .slice (some ⟨N, 0, none⟩) 256 256 ∧ W0.heap.size ≤ N ∧ Blk V1 N 4 ((bitsTo (fun i => lb.getD i 0) 256).map Value.bool) := hslots 23 (by kernel_rfl)
  obtain rfl := Fg.frame_by [8, 9, 10, 14, 15, 16, 20, 21, 22, 23] (vs := [Value.slice aa 32 ca, p.v, Value.slice ab 32 cb, undef, Value.pointer (some ⟨w0.heap.size, 0, none⟩), undef, Value.pointer (some ⟨w0.heap.size + 1, 0, none⟩), undef, u8, u9, u10, undef, undef, undef, u14, u15, u16, undef, undef, undef, u20, Value.slice (some ⟨N21, 0, none⟩) 256 256, u22, Value.slice (some ⟨N23, 0, none⟩) 256 256, undef, undef, undef, undef, undef, undef, undef, undef, undef, undef]) hsz hrest (by kernel_rfl) rfl rfl ⟨hs8, hs9, hs10, hs14, hs15, hs16, hs20, hs21, hs22, hs23, trivial⟩ hdf
  clear hsz hdf hrest hslots hpt hs8 hs9 hs10 hs14 hs15 hs16 hs20 hs21 hs22 hs23
  replace hP := hP.gn g1
  replace hR := hR.gn g1
  replace G := gb_trans G g1
  replace HT := HT.grown g1
  have hw21 : w0.heap.size ≤ N21 := Nat.le_trans Gs0 hn21
  have hw23 : w0.heap.size ≤ N23 := Nat.le_trans Gs0 hn23
  clear g1
  have l2hP := hP.lt
  have l2hR := hR.lt
  have l2hb21 := hb21.lt
  have l2hb23 := hb23.lt
  refine Fg.wpl_call rfl (Fg.run_call (vs := #[.slice (some ⟨N21, 0, none⟩) 256 256, .slice (some ⟨N23, 0, none⟩) 256 256]) rfl rfl (by simp only [List.map_toArray, List.map_cons, List.map_nil, Act.eval]; rfl) (Fg.run_enter Tryd.func50 (by kernel_rfl) (by kernel_rfl))) ?_
  refine (ilv_any N21 N23 (bitAt fun i => la.getD i 0) (bitAt fun i => lb.getD i 0) V1 hb21.lt hb23.lt (Lib.hid (fun j hj => bits_cell hb21 j hj)) (Lib.hid (fun j hj => bits_cell hb23 j hj))).mono ?_
  rintro e C5 ⟨g7, rfl, ga, hn7, hb7⟩
  refine ⟨_, rfl, ?_⟩
  have hw7 : w0.heap.size ≤ g7 := Nat.le_trans G.size hn7
  replace hP := hP.gn ga
  replace hR := hR.gn ga
  replace hb21 := hb21.gn ga
  replace hb23 := hb23.gn ga
  replace G := gb_trans G ga
  replace HT := HT.grown ga
  clear ga
  simp only [Act.put, List.setIfInBounds_toArray, List.set_cons_succ, List.set_cons_zero]
  refine Fg.wpl_value (v := .slice (some ⟨g7, 0, none⟩) 512 512) (w' := C5) rfl (Fg.run_assign rfl rfl) ?_
  refine wpList_nil ?_
  simp only [Act.put, List.setIfInBounds_toArray, List.set_cons_succ, List.set_cons_zero]
  go_upto_region 6 with (fail)
  have Gs1 := G.size
  have l3hP := hP.lt
  have l3hR := hR.lt
  have l3hb21 := hb21.lt
  have l3hb23 := hb23.lt
  have l3hb7 := hb7.lt
  refine Fg.rT [] [.any, .any, .any, .any, .any, .any, .any, .any, .any, .any, .any, .any, .any, .any, .any, .any, .any, .any, .any, .any, .any, .any, .any, .any, .any, .val (Value.slice (some ⟨g7, 0, none⟩) 512 512), .val (p.v), .val (baseT.v), .val (p.v), .val ((dblF p).v), .val (baseT.v), .val ((dblF baseT).v), .row 28 (ptsL [p, baseT, dblF p, dblF baseT]) 4 C5.heap.size] 8 ?_ ?_
  ·refine Fg.vS rfl (by decide) (fun ac w h => ?_) ?_
   ·have e7 : _ = Value.slice (some ⟨g7, 0, none⟩) 512 512 := h.r 7
    exact Fg.vn (Value.slice (some ⟨g7, 0, none⟩) 512 512) (Fg.run_move rfl e7)
   refine Fg.vS rfl (by decide) (fun ac w h => ?_) ?_
   ·have e4 : _ = Value.pointer (some ⟨w0.heap.size, 0, none⟩) := h.r 4
    exact Fg.vn p.v (Fg.run_load rfl e4 ((hP.gn h.base).range 0 (ptL p) rfl) Tryd.underlying28 rfl info_point)
   refine Fg.cS rfl (by decide) (fun ac w h => ?_) ?_
   ·refine ⟨wants_none rfl, 19, #[], Fg.run_call rfl rfl (by simp) (Fg.run_enter Tryd.func19 (by kernel_rfl) (by kernel_rfl)), ?_⟩
    exact (edBase _ (HT.grown h.base)).mono fun _ _ ⟨he, hg⟩ => ⟨_, he, hg, rfl⟩
   refine Fg.vS rfl (by decide) (fun ac w h => ?_) ?_
   ·have e4 : _ = Value.pointer (some ⟨w0.heap.size, 0, none⟩) := h.r 4
    exact Fg.vn p.v (Fg.run_load rfl e4 ((hP.gn h.base).range 0 (ptL p) rfl) Tryd.underlying28 rfl info_point)
   refine Fg.cS rfl (by decide) (fun ac w h => ?_) ?_
   ·have e28 : _ = p.v := h.d 28
    refine ⟨wants_none rfl, 12, #[p.v], Fg.run_call rfl rfl (by simp only [List.map_toArray, List.map_cons, List.map_nil, Act.eval, e28]) (Fg.run_enter Tryd.func12 (by kernel_rfl) (by kernel_rfl)), ?_⟩
    exact (edDbl p _ _ (HT.grown h.base) hp).mono fun _ _ ⟨he, hg⟩ => ⟨_, he, hg, rfl⟩
   refine Fg.cS rfl (by decide) (fun ac w h => ?_) ?_
   ·refine ⟨wants_none rfl, 19, #[], Fg.run_call rfl rfl (by simp) (Fg.run_enter Tryd.func19 (by kernel_rfl) (by kernel_rfl)), ?_⟩
    exact (edBase _ (HT.grown h.base)).mono fun _ _ ⟨he, hg⟩ => ⟨_, he, hg, rfl⟩
   refine Fg.cS rfl (by decide) (fun ac w h => ?_) ?_
   ·have e30 : _ = baseT.v := h.d 30
    refine ⟨wants_none rfl, 12, #[baseT.v], Fg.run_call rfl rfl (by simp only [List.map_toArray, List.map_cons, List.map_nil, Act.eval, e30]) (Fg.run_enter Tryd.func12 (by kernel_rfl) (by kernel_rfl)), ?_⟩
    exact (edDbl baseT _ _ (HT.grown h.base) baseIs).mono fun _ _ ⟨he, hg⟩ => ⟨_, he, hg, rfl⟩
   refine Fg.vS rfl (by decide) (fun ac w h => ?_) ?_
   ·have e26 : _ = p.v := h.d 26
    have e27 : _ = baseT.v := h.d 27
    have e29 : _ = (dblF p).v := h.d 29
    have e31 : _ = (dblF baseT).v := h.d 31
    exact ⟨wants_none rfl, .slice (some ⟨w.heap.size, 0, none⟩) 4 4, w.alloc (.cells (ptsL [p, baseT, dblF p, dblF baseT]).toArray 28), Fg.run_buildSlice (vs := #[(0, p.v), (1, baseT.v), (2, (dblF p).v), (3, (dblF baseT).v)]) rfl (by simp only [List.map_toArray, List.map_cons, List.map_nil, Act.eval, e26, e27, e29, e31]) (by kernel_rfl), World.grownBy_alloc _ _ _, ⟨w.heap.size, rfl, h.base.size, Blk.new w (ptsL [p, baseT, dblF p, dblF baseT]) _⟩⟩
   trivial
  ·intro qa V2 g2 hsz hdf hrest hslots hpt
   obtain ⟨u20, hs20⟩ := Fg.slotv qa 20
   obtain ⟨u21, hs21⟩ := Fg.slotv qa 21
   obtain ⟨u22, hs22⟩ := Fg.slotv qa 22
   obtain ⟨u23, hs23⟩ := Fg.slotv qa 23
   obtain ⟨u24, hs24⟩ := Fg.slotv qa 24
   obtain ⟨u26, hs26⟩ := Fg.slotv qa 26
   obtain ⟨u27, hs27⟩ := Fg.slotv qa 27
   obtain ⟨u28, hs28⟩ := Fg.slotv qa 28
   obtain ⟨u29, hs29⟩ := Fg.slotv qa 29
   obtain ⟨u30, hs30⟩ := Fg.slotv qa 30
   obtain ⟨u31, hs31⟩ := Fg.slotv qa 31
   obtain ⟨N32, hs32, hn32, hb32⟩ : ∃ N, qa.tmps.getD 32 undef = .slice (some ⟨N, 0, none⟩) 4 4 ∧ C5.heap.size ≤ N ∧ Blk V2 N 28 (ptsL [p, baseT, dblF p, dblF baseT]) := hslots 32 (by kernel_rfl)
   obtain rfl := Fg.frame_by [20, 21, 22, 23, 24, 25, 26, 27, 28, 29, 30, 31, 32] (vs := [Value.slice aa 32 ca, p.v, Value.slice ab 32 cb, undef, Value.pointer (some ⟨w0.heap.size, 0, none⟩), undef, Value.pointer (some ⟨w0.heap.size + 1, 0, none⟩), Value.slice (some ⟨g7, 0, none⟩) 512 512, u8, u9, u10, undef, undef, undef, u14, u15, u16, undef, undef, undef, u20, u21, u22, u23, u24, Value.slice (some ⟨g7, 0, none⟩) 512 512, u26, u27, u28, u29, u30, u31, Value.slice (some ⟨N32, 0, none⟩) 4 4, undef]) hsz hrest (by kernel_rfl) rfl rfl ⟨hs20, hs21, hs22, hs23, hs24, (show qa.tmps.getD 25 undef = Value.slice (some ⟨g7, 0, none⟩) 512 512 from hslots 25 (by kernel_rfl)), hs26, hs27, hs28, hs29, hs30, hs31, hs32, trivial⟩ hdf
   clear hsz hdf hrest hslots hpt hs20 hs21 hs22 hs23 hs24 hs26 hs27 hs28 hs29 hs30 hs31 hs32
   replace hP := hP.gn g2
   replace hR := hR.gn g2
   replace hb21 := hb21.gn g2
   replace hb23 := hb23.gn g2
   replace hb7 := hb7.gn g2
   replace G := gb_trans G g2
   replace HT := HT.grown g2
   have hw32 : w0.heap.size ≤ N32 := Nat.le_trans Gs1 hn32
   clear g2
   have l4hP := hP.lt
   have l4hR := hR.lt
   have l4hb21 := hb21.lt
   have l4hb23 := hb23.lt
   have l4hb7 := hb7.lt
   have l4hb32 := hb32.lt
   refine Fg.wpl_call rfl (Fg.run_call (vs := #[.int .i64 2, .slice (some ⟨g7, 0, none⟩) 512 512, .slice (some ⟨N32, 0, none⟩) 4 4]) rfl rfl (by simp only [List.map_toArray, List.map_cons, List.map_nil, Act.eval]; rfl) (Fg.run_enter Tryd.func48 (by kernel_rfl) (by kernel_rfl))) ?_
   refine (gather_any 2 N32 g7 512 128 [p, baseT, dblF p, dblF baseT] [r, baseR, Ed.add r r, Ed.add baseR baseR] [] (ilB la lb) V2 HT (by decide) rfl (by decide) (by decide) rfl (ptsAre4 hp baseIs (dblIs hp) (dblIs baseIs)) (by rw [List.append_nil]; exact hb32) hb7.lt (fun j hj => hb7.cell (ilvV_get _ _ 256 j (by omega)))).mono ?_
   rintro e C9 ⟨t9, ht9, rfl, gc⟩
   refine ⟨_, rfl, ?_⟩
   rw [both_is hp.on base_on la lb hla hlb HPa.out.byte HPb.out.byte] at ht9
   have Ht9 := Lib.hid ht9; clear ht9
   replace hP := hP.gn gc
   replace hR := hR.gn gc
   replace hb21 := hb21.gn gc
   replace hb23 := hb23.gn gc
   replace hb7 := hb7.gn gc
   replace hb32 := hb32.gn gc
   replace G := gb_trans G gc
   replace HT := HT.grown gc
   clear gc
   refine Fg.wpl_skip rfl rfl (Fg.run_store (cs := ptL t9) rfl rfl rfl (hR.there 0 20 (by show 0 + 20 ≤ 20; decide)) info_point (ptL_one _)) ?_
   replace hP := hP.setCells_other (C := (w0.heap.size + 1)) (cs := ptL t9) 0 (by omega)
   replace hR : Blk (C9.setCells (w0.heap.size + 1) 0 (ptL t9)) (w0.heap.size + 1) 28 (ptL t9) := hR.setAll rfl
   replace hb21 := hb21.setCells_other (C := (w0.heap.size + 1)) (cs := ptL t9) 0 (by omega)
   replace hb23 := hb23.setCells_other (C := (w0.heap.size + 1)) (cs := ptL t9) 0 (by omega)
   replace hb7 := hb7.setCells_other (C := (w0.heap.size + 1)) (cs := ptL t9) 0 (by omega)
   replace hb32 := hb32.setCells_other (C := (w0.heap.size + 1)) (cs := ptL t9) 0 (by omega)
   replace G := gb_setCells_new (cs := ptL t9) G (B := (w0.heap.size + 1)) (by omega) 0
   replace HT := HT.keep (gb_setCells (cs := ptL t9) (gb_refl _ (some (w0.heap.size + 1))) 0) (HT0.noG (by omega))
   revert hP hR hb21 hb23 hb7 hb32 G HT
   generalize C9.setCells (w0.heap.size + 1) 0 (ptL t9) = W3
   intro hP hR hb21 hb23 hb7 hb32 G HT
   go_wp2_with fail
   exact bodyPost_ret (v := t9.v) (results_cell_row Tryd.results23 _ _ (w0.heap.size + 1) 28 (ptL t9).toArray (0, 0) _ rfl hR Tryd.underlying28 rfl info_point) rfl ⟨t9, Ht9.out, rfl, G⟩

end Go.Proofs.YtleegbaigedebaaDoor
