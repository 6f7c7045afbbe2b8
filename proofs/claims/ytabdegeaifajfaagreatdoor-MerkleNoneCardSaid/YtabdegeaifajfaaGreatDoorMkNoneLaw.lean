/- The law MerkleNone's walk. -/
import Derived.Test.YtabdegeaifajfaaGreatDoorMkAwake
import Derived.Test.YtabdegeaifajfaaGreatDoorMkNoTree
import Derived.Test.YtabdegeaifajfaaGreatDoorMkLight
namespace Go.Proofs.YtabdegeaifajfaaGreatDoor
open Go.RowKit Ow
namespace Mk
def treeZ : List Value := [.slice none 0 0, .int .i64 0, .map none, .pointer none]
set_option maxRecDepth 100000 in
set_option maxHeartbeats 4000000 in
theorem none_any (n cap : Nat) (a : Option Addr) (p : ByteArray) (sh : Int) (w0 : World) (hT : Tables w0) (hL : LeafRow w0 w0.heap.size a n) :
    Calls Tryz.prog 3 #[.slice a n cap, .string p, .int .i64 sh] w0 fun e w' => e = .returned (.bool true) ∧ w0.grownBy w' none := by
  have HL := Lib.hid (And.intro hT hL); clear hT hL
  go_enter Tryz.func3, Tryz.ntmps3
  go_wp2_with fail
  refine (awake12_any w0 HL.out.1).mono ?_
  rintro e w1 ⟨rfl, g1⟩
  have H1 := Lib.hid g1; clear g1
  go_wp2_with fail
  refine (light_any n cap _ a w1 (HL.out.2.stay H1.out)).mono ?_
  rintro e w2 ⟨b, rfl, g2⟩
  have H2 := Lib.hid (gb_trans H1.out g2); clear g2
  cases b with
  | false =>
    go_wp2
    go_ret
    exact ⟨rfl, H2.out⟩
  | true =>
    by_cases hp : (600 : Int) < (p.size : Int)
    · go_wp2
      go_ret
      exact ⟨rfl, H2.out⟩
    · by_cases s1 : sh < 0
      · have s2 : ¬ (3 : Int) < sh := by omega
        go_wp2_with fail
        refine (new_no sh w2 (Or.inl s1)).mono ?_
        rintro e w3 ⟨rfl, g3⟩
        have H3 := Lib.hid (gb_trans H2.out g3); clear g3
        go_upto_region 8 with (fail)
        show Code.wp _ _ _ _ ((w3.alloc (.cells treeZ.toArray 31)).alloc (.cells [.pointer none, .pointer (some ⟨w3.heap.size, 0, none⟩)].toArray 25))
        have b1 := (Blk.new w3 treeZ 31).alloc (.cells [.pointer none, .pointer (some ⟨w3.heap.size, 0, none⟩)].toArray 25)
        have b2 := blk_at (w3.alloc (.cells treeZ.toArray 31)) (B := w3.heap.size + 1) [.pointer none, .pointer (some ⟨w3.heap.size, 0, none⟩)] 25 (by simp)
        have g2 := gb_alloc (gb_alloc H3.out (.cells treeZ.toArray 31)) (.cells [.pointer none, .pointer (some ⟨w3.heap.size, 0, none⟩)].toArray 25)
        have ss := (H3.out).size
        revert g2; revert b2; revert b1
        generalize (w3.alloc (.cells treeZ.toArray 31)).alloc (.cells [.pointer none, .pointer (some ⟨w3.heap.size, 0, none⟩)].toArray 25) = wT
        intro b1 b2 g2
        obtain ⟨Z, hZ⟩ : ∃ Z, Z = w3.heap.size := ⟨_, rfl⟩
        rw [← hZ] at b1 b2 ⊢
        have H4 := Lib.hid (And.intro g2 (And.intro b1 (And.intro b2 (show w0.heap.size ≤ Z by omega)))); clear b1 b2 g2 hZ ss
        go_wp2
        go_loopw [8, 9, 10, 11] (fun i _t _n _e wr => ∃ k : Nat, k ≤ 2 ∧ i = .int .i64 k ∧ w0.grownBy wr none ∧ Blk wr Z 31 treeZ ∧ Blk wr (Z + 1) 25 [.pointer none, .pointer (some ⟨Z, 0, none⟩)]) (fun i _ _ _ _ => 2 - (intOf i).toNat)
        case atStart => exact ⟨0, by omega, rfl, H4.out.1, H4.out.2.1, H4.out.2.2.1⟩
        case round =>
          obtain ⟨k, hk, rfl, hg, hz, ht⟩ := hrel
          by_cases hlt : k < 2
          · have HR := Lib.hid (And.intro hg (And.intro hz ht)); clear hg hz ht
            obtain ⟨v, hv, hn⟩ : ∃ v, wr.cell? ⟨Z + 1, k, none⟩ = some v ∧ NoTree wr v := by
              rcases (by omega : k = 0 ∨ k = 1) with rfl | rfl
              · exact ⟨_, HR.out.2.2.cell (i := 0) rfl, Or.inl rfl⟩
              · exact ⟨_, HR.out.2.2.cell (i := 1) rfl, Or.inr ⟨Z, rfl, HR.out.2.1.cell (i := 3) rfl, HR.out.2.1.lt⟩⟩
            have HN := Lib.hid hn; clear hn
            have i0 : (k : Int) < 2 := by omega
            go_upto_region 12 with (fail)
            refine wp_region_lit ?_
            refine Fg.wpl_value (v := v) (w' := wr) rfl (Fg.run_move rfl rfl) ?_
            simp only [Act.put, List.setIfInBounds_toArray, List.set_cons_succ, List.set_cons_zero]
            refine Fg.wpl_value (v := .string p) (w' := wr) rfl (Fg.run_move rfl rfl) ?_
            simp only [Act.put, List.setIfInBounds_toArray, List.set_cons_succ, List.set_cons_zero]
            refine Fg.wpl_call rfl (Fg.run_call (vs := #[v, .string p]) rfl rfl (by simp only [List.map_toArray, List.map_cons, List.map_nil, Act.eval] <;> rfl) (Fg.run_enter Tryz.func7 (by kernel_rfl) (by kernel_rfl))) ?_
            refine (no_node v p wr HN.out).mono ?_
            rintro e wa ⟨rfl, gwa⟩
            refine ⟨_, rfl, ?_⟩
            simp only [Act.put, List.setIfInBounds_toArray, List.set_cons_succ, List.set_cons_zero]
            refine Fg.wpl_value (v := .tuple #[.agg nodeZ.toArray, .int .i64 1]) (w' := wa) rfl (Fg.run_move rfl rfl) ?_
            simp only [Act.put, List.setIfInBounds_toArray, List.set_cons_succ, List.set_cons_zero]
            refine Fg.wpl_value (v := .agg nodeZ.toArray) (w' := wa) rfl (by go_simp <;> rfl) ?_
            simp only [Act.put, List.setIfInBounds_toArray, List.set_cons_succ, List.set_cons_zero]
            refine Fg.wpl_value (v := .int .i64 1) (w' := wa) rfl (by go_simp <;> rfl) ?_
            simp only [Act.put, List.setIfInBounds_toArray, List.set_cons_succ, List.set_cons_zero]
            refine Fg.wpl_value (v := .pointer (some ⟨wa.heap.size, 0, none⟩)) (w' := wa.alloc (.cells nodeZ.toArray 36)) rfl (by go_simp; rfl) ?_
            simp only [Act.put, List.setIfInBounds_toArray, List.set_cons_succ, List.set_cons_zero]
            refine Fg.wpl_skip rfl rfl (Fg.run_store (cs := nodeZ) rfl rfl rfl ((Blk.new wa nodeZ 36).there 0 4 (by decide)) info_node rfl) ?_
            refine Fg.wpl_value (v := .int .i64 1) (w' := _) rfl (Fg.run_assign rfl rfl) ?_
            simp only [Act.put, List.setIfInBounds_toArray, List.set_cons_succ, List.set_cons_zero]
            refine wpList_nil ?_
            have b3 : Blk ((wa.alloc (.cells nodeZ.toArray 36)).setCells wa.heap.size 0 nodeZ) wa.heap.size 36 nodeZ := (Blk.new wa nodeZ 36).setAll rfl
            have g3 := gb_setCells_new (cs := nodeZ) (gb_alloc (gb_refl wa none) (.cells nodeZ.toArray 36)) (B := wa.heap.size) (Nat.le_refl _) 0
            obtain ⟨N2, hN2⟩ : ∃ N2, N2 = wa.heap.size := ⟨_, rfl⟩
            rw [← hN2] at b3 g3 ⊢
            clear hN2
            revert g3; revert b3
            generalize World.setCells _ _ _ _ = wb
            intro b3 g3
            have HB := Lib.hid (And.intro (gb_trans gwa g3) b3); clear gwa g3 b3
            go_wp2_with fail
            refine (no_put v _ wb (HN.out.stay HB.out.1)).mono ?_
            rintro e wz ⟨rfl, rfl⟩
            go_wp2_with fail
            refine (no_get v _ wb (HN.out.stay HB.out.1)).mono ?_
            rintro e wz ⟨rfl, rfl⟩
            go_wp2_with fail
            refine (no_shard v wb (HN.out.stay HB.out.1)).mono ?_
            rintro e wz ⟨rfl, rfl⟩
            go_wp2_with fail
            refine (no_top v wb (HN.out.stay HB.out.1)).mono ?_
            rintro e wz ⟨rfl, rfl⟩
            go_wp2_with fail
            refine (no_sum v _ wb (HN.out.stay HB.out.1)).mono ?_
            rintro e wz ⟨rfl, rfl⟩
            have m0 := HB.out.2.cell (i := 0) rfl
            have m1 := HB.out.2.cell (i := 1) rfl
            have m2 := HB.out.2.cell (i := 2) rfl
            have m3 := HB.out.2.cell (i := 3) rfl
            go_wp2_with fail
            refine (same_node_zero wb).mono ?_
            rintro e wc ⟨rfl, gc⟩
            have HC := Lib.hid (gb_trans HB.out.1 gc); clear gc m0 m1 m2 m3
            go_wp2_with fail
            refine (no_leaves v wc (HN.out.stay HC.out)).mono ?_
            rintro e wd ⟨rfl, gd⟩
            have HD := Lib.hid (gb_trans HC.out gd); clear gd
            go_wp2_with fail
            refine (no_copy v wd (HN.out.stay HD.out)).mono ?_
            rintro e wz ⟨rfl, rfl⟩
            go_wp2
            exact ⟨⟨k + 1, by omega, by congr 1, gb_trans HR.out.1 HD.out, HR.out.2.1.grown HD.out (by simp), HR.out.2.2.grown HD.out (by simp)⟩, by simp [intOf]; omega⟩
          · obtain rfl : k = 2 := by omega
            have HG := Lib.hid hg; clear hg hz ht
            go_wp2
            go_ret
            exact ⟨rfl, HG.out⟩
      · have s0 : (0 : Int) ≤ sh := by omega
        clear s1
        by_cases s2 : (3 : Int) < sh
        · go_wp2_with fail
          · exfalso; omega
          refine (new_no sh w2 (Or.inr s2)).mono ?_
          rintro e w3 ⟨rfl, g3⟩
          have H3 := Lib.hid (gb_trans H2.out g3); clear g3
          go_upto_region 8 with (fail)
          show Code.wp _ _ _ _ ((w3.alloc (.cells treeZ.toArray 31)).alloc (.cells [.pointer none, .pointer (some ⟨w3.heap.size, 0, none⟩)].toArray 25))
          have b1 := (Blk.new w3 treeZ 31).alloc (.cells [.pointer none, .pointer (some ⟨w3.heap.size, 0, none⟩)].toArray 25)
          have b2 := blk_at (w3.alloc (.cells treeZ.toArray 31)) (B := w3.heap.size + 1) [.pointer none, .pointer (some ⟨w3.heap.size, 0, none⟩)] 25 (by simp)
          have g2 := gb_alloc (gb_alloc H3.out (.cells treeZ.toArray 31)) (.cells [.pointer none, .pointer (some ⟨w3.heap.size, 0, none⟩)].toArray 25)
          have ss := (H3.out).size
          revert g2; revert b2; revert b1
          generalize (w3.alloc (.cells treeZ.toArray 31)).alloc (.cells [.pointer none, .pointer (some ⟨w3.heap.size, 0, none⟩)].toArray 25) = wT
          intro b1 b2 g2
          obtain ⟨Z, hZ⟩ : ∃ Z, Z = w3.heap.size := ⟨_, rfl⟩
          rw [← hZ] at b1 b2 ⊢
          have H4 := Lib.hid (And.intro g2 (And.intro b1 (And.intro b2 (show w0.heap.size ≤ Z by omega)))); clear b1 b2 g2 hZ ss
          go_wp2
          go_loopw [8, 9, 10, 11] (fun i _t _n _e wr => ∃ k : Nat, k ≤ 2 ∧ i = .int .i64 k ∧ w0.grownBy wr none ∧ Blk wr Z 31 treeZ ∧ Blk wr (Z + 1) 25 [.pointer none, .pointer (some ⟨Z, 0, none⟩)]) (fun i _ _ _ _ => 2 - (intOf i).toNat)
          case atStart => exact ⟨0, by omega, rfl, H4.out.1, H4.out.2.1, H4.out.2.2.1⟩
          case round =>
            obtain ⟨k, hk, rfl, hg, hz, ht⟩ := hrel
            by_cases hlt : k < 2
            · have HR := Lib.hid (And.intro hg (And.intro hz ht)); clear hg hz ht
              obtain ⟨v, hv, hn⟩ : ∃ v, wr.cell? ⟨Z + 1, k, none⟩ = some v ∧ NoTree wr v := by
                rcases (by omega : k = 0 ∨ k = 1) with rfl | rfl
                · exact ⟨_, HR.out.2.2.cell (i := 0) rfl, Or.inl rfl⟩
                · exact ⟨_, HR.out.2.2.cell (i := 1) rfl, Or.inr ⟨Z, rfl, HR.out.2.1.cell (i := 3) rfl, HR.out.2.1.lt⟩⟩
              have HN := Lib.hid hn; clear hn
              have i0 : (k : Int) < 2 := by omega
              go_upto_region 12 with (fail)
              refine wp_region_lit ?_
              refine Fg.wpl_value (v := v) (w' := wr) rfl (Fg.run_move rfl rfl) ?_
              simp only [Act.put, List.setIfInBounds_toArray, List.set_cons_succ, List.set_cons_zero]
              refine Fg.wpl_value (v := .string p) (w' := wr) rfl (Fg.run_move rfl rfl) ?_
              simp only [Act.put, List.setIfInBounds_toArray, List.set_cons_succ, List.set_cons_zero]
              refine Fg.wpl_call rfl (Fg.run_call (vs := #[v, .string p]) rfl rfl (by simp only [List.map_toArray, List.map_cons, List.map_nil, Act.eval] <;> rfl) (Fg.run_enter Tryz.func7 (by kernel_rfl) (by kernel_rfl))) ?_
              refine (no_node v p wr HN.out).mono ?_
              rintro e wa ⟨rfl, gwa⟩
              refine ⟨_, rfl, ?_⟩
              simp only [Act.put, List.setIfInBounds_toArray, List.set_cons_succ, List.set_cons_zero]
              refine Fg.wpl_value (v := .tuple #[.agg nodeZ.toArray, .int .i64 1]) (w' := wa) rfl (Fg.run_move rfl rfl) ?_
              simp only [Act.put, List.setIfInBounds_toArray, List.set_cons_succ, List.set_cons_zero]
              refine Fg.wpl_value (v := .agg nodeZ.toArray) (w' := wa) rfl (by go_simp <;> rfl) ?_
              simp only [Act.put, List.setIfInBounds_toArray, List.set_cons_succ, List.set_cons_zero]
              refine Fg.wpl_value (v := .int .i64 1) (w' := wa) rfl (by go_simp <;> rfl) ?_
              simp only [Act.put, List.setIfInBounds_toArray, List.set_cons_succ, List.set_cons_zero]
              refine Fg.wpl_value (v := .pointer (some ⟨wa.heap.size, 0, none⟩)) (w' := wa.alloc (.cells nodeZ.toArray 36)) rfl (by go_simp; rfl) ?_
              simp only [Act.put, List.setIfInBounds_toArray, List.set_cons_succ, List.set_cons_zero]
              refine Fg.wpl_skip rfl rfl (Fg.run_store (cs := nodeZ) rfl rfl rfl ((Blk.new wa nodeZ 36).there 0 4 (by decide)) info_node rfl) ?_
              refine Fg.wpl_value (v := .int .i64 1) (w' := _) rfl (Fg.run_assign rfl rfl) ?_
              simp only [Act.put, List.setIfInBounds_toArray, List.set_cons_succ, List.set_cons_zero]
              refine wpList_nil ?_
              have b3 : Blk ((wa.alloc (.cells nodeZ.toArray 36)).setCells wa.heap.size 0 nodeZ) wa.heap.size 36 nodeZ := (Blk.new wa nodeZ 36).setAll rfl
              have g3 := gb_setCells_new (cs := nodeZ) (gb_alloc (gb_refl wa none) (.cells nodeZ.toArray 36)) (B := wa.heap.size) (Nat.le_refl _) 0
              obtain ⟨N2, hN2⟩ : ∃ N2, N2 = wa.heap.size := ⟨_, rfl⟩
              rw [← hN2] at b3 g3 ⊢
              clear hN2
              revert g3; revert b3
              generalize World.setCells _ _ _ _ = wb
              intro b3 g3
              have HB := Lib.hid (And.intro (gb_trans gwa g3) b3); clear gwa g3 b3
              go_wp2_with fail
              refine (no_put v _ wb (HN.out.stay HB.out.1)).mono ?_
              rintro e wz ⟨rfl, rfl⟩
              go_wp2_with fail
              refine (no_get v _ wb (HN.out.stay HB.out.1)).mono ?_
              rintro e wz ⟨rfl, rfl⟩
              go_wp2_with fail
              refine (no_shard v wb (HN.out.stay HB.out.1)).mono ?_
              rintro e wz ⟨rfl, rfl⟩
              go_wp2_with fail
              refine (no_top v wb (HN.out.stay HB.out.1)).mono ?_
              rintro e wz ⟨rfl, rfl⟩
              go_wp2_with fail
              refine (no_sum v _ wb (HN.out.stay HB.out.1)).mono ?_
              rintro e wz ⟨rfl, rfl⟩
              have m0 := HB.out.2.cell (i := 0) rfl
              have m1 := HB.out.2.cell (i := 1) rfl
              have m2 := HB.out.2.cell (i := 2) rfl
              have m3 := HB.out.2.cell (i := 3) rfl
              go_wp2_with fail
              refine (same_node_zero wb).mono ?_
              rintro e wc ⟨rfl, gc⟩
              have HC := Lib.hid (gb_trans HB.out.1 gc); clear gc m0 m1 m2 m3
              go_wp2_with fail
              refine (no_leaves v wc (HN.out.stay HC.out)).mono ?_
              rintro e wd ⟨rfl, gd⟩
              have HD := Lib.hid (gb_trans HC.out gd); clear gd
              go_wp2_with fail
              refine (no_copy v wd (HN.out.stay HD.out)).mono ?_
              rintro e wz ⟨rfl, rfl⟩
              go_wp2
              exact ⟨⟨k + 1, by omega, by congr 1, gb_trans HR.out.1 HD.out, HR.out.2.1.grown HD.out (by simp), HR.out.2.2.grown HD.out (by simp)⟩, by simp [intOf]; omega⟩
            · obtain rfl : k = 2 := by omega
              have HG := Lib.hid hg; clear hg hz ht
              go_wp2
              go_ret
              exact ⟨rfl, HG.out⟩
        · skip
          go_upto_region 8 with (fail)
          show Code.wp _ _ _ _ ((w2.alloc (.cells treeZ.toArray 31)).alloc (.cells [.pointer none, .pointer (some ⟨w2.heap.size, 0, none⟩)].toArray 25))
          have b1 := (Blk.new w2 treeZ 31).alloc (.cells [.pointer none, .pointer (some ⟨w2.heap.size, 0, none⟩)].toArray 25)
          have b2 := blk_at (w2.alloc (.cells treeZ.toArray 31)) (B := w2.heap.size + 1) [.pointer none, .pointer (some ⟨w2.heap.size, 0, none⟩)] 25 (by simp)
          have g2 := gb_alloc (gb_alloc H2.out (.cells treeZ.toArray 31)) (.cells [.pointer none, .pointer (some ⟨w2.heap.size, 0, none⟩)].toArray 25)
          have ss := (H2.out).size
          revert g2; revert b2; revert b1
          generalize (w2.alloc (.cells treeZ.toArray 31)).alloc (.cells [.pointer none, .pointer (some ⟨w2.heap.size, 0, none⟩)].toArray 25) = wT
          intro b1 b2 g2
          obtain ⟨Z, hZ⟩ : ∃ Z, Z = w2.heap.size := ⟨_, rfl⟩
          rw [← hZ] at b1 b2 ⊢
          have H4 := Lib.hid (And.intro g2 (And.intro b1 (And.intro b2 (show w0.heap.size ≤ Z by omega)))); clear b1 b2 g2 hZ ss
          go_wp2
          go_loopw [8, 9, 10, 11] (fun i _t _n _e wr => ∃ k : Nat, k ≤ 2 ∧ i = .int .i64 k ∧ w0.grownBy wr none ∧ Blk wr Z 31 treeZ ∧ Blk wr (Z + 1) 25 [.pointer none, .pointer (some ⟨Z, 0, none⟩)]) (fun i _ _ _ _ => 2 - (intOf i).toNat)
          case atStart => exact ⟨0, by omega, rfl, H4.out.1, H4.out.2.1, H4.out.2.2.1⟩
          case round =>
            obtain ⟨k, hk, rfl, hg, hz, ht⟩ := hrel
            by_cases hlt : k < 2
            · have HR := Lib.hid (And.intro hg (And.intro hz ht)); clear hg hz ht
              obtain ⟨v, hv, hn⟩ : ∃ v, wr.cell? ⟨Z + 1, k, none⟩ = some v ∧ NoTree wr v := by
                rcases (by omega : k = 0 ∨ k = 1) with rfl | rfl
                · exact ⟨_, HR.out.2.2.cell (i := 0) rfl, Or.inl rfl⟩
                · exact ⟨_, HR.out.2.2.cell (i := 1) rfl, Or.inr ⟨Z, rfl, HR.out.2.1.cell (i := 3) rfl, HR.out.2.1.lt⟩⟩
              have HN := Lib.hid hn; clear hn
              have i0 : (k : Int) < 2 := by omega
              go_upto_region 12 with (fail)
              refine wp_region_lit ?_
              refine Fg.wpl_value (v := v) (w' := wr) rfl (Fg.run_move rfl rfl) ?_
              simp only [Act.put, List.setIfInBounds_toArray, List.set_cons_succ, List.set_cons_zero]
              refine Fg.wpl_value (v := .string p) (w' := wr) rfl (Fg.run_move rfl rfl) ?_
              simp only [Act.put, List.setIfInBounds_toArray, List.set_cons_succ, List.set_cons_zero]
              refine Fg.wpl_call rfl (Fg.run_call (vs := #[v, .string p]) rfl rfl (by simp only [List.map_toArray, List.map_cons, List.map_nil, Act.eval] <;> rfl) (Fg.run_enter Tryz.func7 (by kernel_rfl) (by kernel_rfl))) ?_
              refine (no_node v p wr HN.out).mono ?_
              rintro e wa ⟨rfl, gwa⟩
              refine ⟨_, rfl, ?_⟩
              simp only [Act.put, List.setIfInBounds_toArray, List.set_cons_succ, List.set_cons_zero]
              refine Fg.wpl_value (v := .tuple #[.agg nodeZ.toArray, .int .i64 1]) (w' := wa) rfl (Fg.run_move rfl rfl) ?_
              simp only [Act.put, List.setIfInBounds_toArray, List.set_cons_succ, List.set_cons_zero]
              refine Fg.wpl_value (v := .agg nodeZ.toArray) (w' := wa) rfl (by go_simp <;> rfl) ?_
              simp only [Act.put, List.setIfInBounds_toArray, List.set_cons_succ, List.set_cons_zero]
              refine Fg.wpl_value (v := .int .i64 1) (w' := wa) rfl (by go_simp <;> rfl) ?_
              simp only [Act.put, List.setIfInBounds_toArray, List.set_cons_succ, List.set_cons_zero]
              refine Fg.wpl_value (v := .pointer (some ⟨wa.heap.size, 0, none⟩)) (w' := wa.alloc (.cells nodeZ.toArray 36)) rfl (by go_simp; rfl) ?_
              simp only [Act.put, List.setIfInBounds_toArray, List.set_cons_succ, List.set_cons_zero]
              refine Fg.wpl_skip rfl rfl (Fg.run_store (cs := nodeZ) rfl rfl rfl ((Blk.new wa nodeZ 36).there 0 4 (by decide)) info_node rfl) ?_
              refine Fg.wpl_value (v := .int .i64 1) (w' := _) rfl (Fg.run_assign rfl rfl) ?_
              simp only [Act.put, List.setIfInBounds_toArray, List.set_cons_succ, List.set_cons_zero]
              refine wpList_nil ?_
              have b3 : Blk ((wa.alloc (.cells nodeZ.toArray 36)).setCells wa.heap.size 0 nodeZ) wa.heap.size 36 nodeZ := (Blk.new wa nodeZ 36).setAll rfl
              have g3 := gb_setCells_new (cs := nodeZ) (gb_alloc (gb_refl wa none) (.cells nodeZ.toArray 36)) (B := wa.heap.size) (Nat.le_refl _) 0
              obtain ⟨N2, hN2⟩ : ∃ N2, N2 = wa.heap.size := ⟨_, rfl⟩
              rw [← hN2] at b3 g3 ⊢
              clear hN2
              revert g3; revert b3
              generalize World.setCells _ _ _ _ = wb
              intro b3 g3
              have HB := Lib.hid (And.intro (gb_trans gwa g3) b3); clear gwa g3 b3
              go_wp2_with fail
              refine (no_put v _ wb (HN.out.stay HB.out.1)).mono ?_
              rintro e wz ⟨rfl, rfl⟩
              go_wp2_with fail
              refine (no_get v _ wb (HN.out.stay HB.out.1)).mono ?_
              rintro e wz ⟨rfl, rfl⟩
              go_wp2_with fail
              refine (no_shard v wb (HN.out.stay HB.out.1)).mono ?_
              rintro e wz ⟨rfl, rfl⟩
              go_wp2_with fail
              refine (no_top v wb (HN.out.stay HB.out.1)).mono ?_
              rintro e wz ⟨rfl, rfl⟩
              go_wp2_with fail
              refine (no_sum v _ wb (HN.out.stay HB.out.1)).mono ?_
              rintro e wz ⟨rfl, rfl⟩
              have m0 := HB.out.2.cell (i := 0) rfl
              have m1 := HB.out.2.cell (i := 1) rfl
              have m2 := HB.out.2.cell (i := 2) rfl
              have m3 := HB.out.2.cell (i := 3) rfl
              go_wp2_with fail
              refine (same_node_zero wb).mono ?_
              rintro e wc ⟨rfl, gc⟩
              have HC := Lib.hid (gb_trans HB.out.1 gc); clear gc m0 m1 m2 m3
              go_wp2_with fail
              refine (no_leaves v wc (HN.out.stay HC.out)).mono ?_
              rintro e wd ⟨rfl, gd⟩
              have HD := Lib.hid (gb_trans HC.out gd); clear gd
              go_wp2_with fail
              refine (no_copy v wd (HN.out.stay HD.out)).mono ?_
              rintro e wz ⟨rfl, rfl⟩
              go_wp2
              exact ⟨⟨k + 1, by omega, by congr 1, gb_trans HR.out.1 HD.out, HR.out.2.1.grown HD.out (by simp), HR.out.2.2.grown HD.out (by simp)⟩, by simp [intOf]; omega⟩
            · obtain rfl : k = 2 := by omega
              have HG := Lib.hid hg; clear hg hz ht
              go_wp2
              go_ret
              exact ⟨rfl, HG.out⟩
end Mk
end Go.Proofs.YtabdegeaifajfaaGreatDoor
