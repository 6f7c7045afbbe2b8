/- The document's Has, Covers (buttressref07). (Has' regions printed by gen_refhas.py.) -/
import Derived.Test.YtkffbaihknhefaaGreatVeRef
import Derived.Test.YtkffbaihknhefaaGreatVeCovers
namespace Go.Proofs.YtkffbaihknhefaaGreat
open Go.RowKit Ve
namespace Ve
set_option maxHeartbeats 1000000 in
theorem refHas_A (n cap : Nat) (a : Option Addr) (x y : Int) (w W1 : World) (N : Nat) (Q : Ending → World → Prop) (hN : N = w.heap.size) (hW1 : W1 = w.alloc (.cells #[iV x, iV y] 25))
    (hR : ∀ W, W1.grownBy W none → Calls Tryz.prog 13 #[.slice a n cap] W fun e w' => e = .returned (.bool false) ∧ W.grownBy w' none)
    (hQ : ∀ w', W1.grownBy w' none → Q (.returned (.bool false)) w') : Calls Tryz.prog 14 #[.slice a n cap, .agg #[iV x, iV y]] w Q := by
  have HR := Lib.hid hR; clear hR
  have HQ := Lib.hid hQ; clear hQ
  have HK : Hid (∀ {w' : World}, W1.grownBy w' none → w'.cell? ⟨N, 0, none⟩ = some (iV x) ∧ w'.cell? ⟨N, 1, none⟩ = some (iV y)) := fun {w'} hg => by
    have hB : Blk W1 N 25 [iV x, iV y] := by rw [hW1, hN]; exact Blk.new w _ _
    have hB2 := hB.grown hg (by simp)
    exact ⟨hB2.cell (i := 0) rfl, hB2.cell (i := 1) rfl⟩
  go_enter Tryz.func14, Tryz.ntmps14
  go_wp2_with fail
  rw [← hW1, ← hN]
  clear hW1 hN
  refine wp_region_flow3 (Fg.its [.any, .any, .any, .any, .val (.bool false), .val (.slice a n cap), .val (.bool false), .val (.bool false), .val undef, .val undef, .val (.bool false), .val (.bool false), .val undef, .val undef, .val undef, .val undef, .val undef, .val undef, .val undef, .val (.bool false)]) (fun _ => 0) (fun _ _ _ => True) (fun w => World.grownBy W1 w none) [] (by kernel_rfl) (by kernel_rfl) (by kernel_rfl) (gb_drew (gb_refl _ _)) (Fg.ptrs_nil _ _) (Fg.no_store (by kernel_rfl)) ?_ ?_
  · refine ⟨Fg.value rfl fun ac w h => ?_, ?_⟩
    · have e0 : ac.tmps.getD 0 undef = .slice a n cap := h.rest 0 (by kernel_rfl)
      refine ⟨wants_none rfl, .slice a n cap, w, ?_, gb_refl _ _, rfl⟩
      clear h
      simp only [execOp, Act.eval, e0]
      go_simp
    refine ⟨Fg.call rfl fun ac w h => ?_, ?_⟩
    · have e5 : ac.tmps.getD 5 undef = .slice a n cap := h.dep 5 (by kernel_rfl)
      have x5 : ac.tmps[5]?.getD undef = .slice a n cap := by simpa using e5
      have hb := h.base
      refine ⟨wants_none rfl, 13, #[.slice a n cap], ?_, ?_⟩
      · clear h hb e5
        go_simp
      · refine (HR.out w h.base).mono ?_
        intro e w1 hp
        obtain ⟨rfl, hg⟩ := hp
        exact ⟨_, rfl, hg, rfl⟩
    refine ⟨Fg.value rfl fun ac w h => ?_, ?_⟩
    · have e6 : ac.tmps.getD 6 undef = .bool false := h.dep 6 (by kernel_rfl)
      refine ⟨wants_none rfl, .bool false, w, ?_, gb_refl _ _, rfl⟩
      clear h
      simp only [execOp, Act.eval, e6]
      go_simp
    refine ⟨Fg.skipped rfl (fun _ => rfl) fun ac w h => ?_, ?_⟩
    · have e7 : ac.tmps.getD 7 undef = .bool false := h.dep 7 (by kernel_rfl)
      exact not_wants (d := 7) rfl rfl (by rw [h.size]; show 7 < 20; decide) e7 (by decide)
    refine ⟨Fg.skipped rfl (fun _ => rfl) fun ac w h => ?_, ?_⟩
    · have e7 : ac.tmps.getD 7 undef = .bool false := h.dep 7 (by kernel_rfl)
      exact not_wants (d := 7) rfl rfl (by rw [h.size]; show 7 < 20; decide) e7 (by decide)
    refine ⟨Fg.value rfl fun ac w h => ?_, ?_⟩
    · have e7 : ac.tmps.getD 7 undef = .bool false := h.dep 7 (by kernel_rfl)
      refine ⟨wants_none rfl, .bool false, w, ?_, gb_refl _ _, rfl⟩
      clear h
      simp only [execOp, Act.eval, e7]
      go_simp
    refine ⟨Fg.value rfl fun ac w h => ?_, ?_⟩
    · have e10 : ac.tmps.getD 10 undef = .bool false := h.dep 10 (by kernel_rfl)
      refine ⟨wants_none rfl, .bool false, w, ?_, gb_refl _ _, rfl⟩
      clear h
      simp only [execOp, Act.eval, e10]
      go_simp
    refine ⟨Fg.skipped rfl (fun _ => rfl) fun ac w h => ?_, ?_⟩
    · have e11 : ac.tmps.getD 11 undef = .bool false := h.dep 11 (by kernel_rfl)
      exact not_wants (d := 11) rfl rfl (by rw [h.size]; show 11 < 20; decide) e11 (by decide)
    refine ⟨Fg.skipped rfl (fun _ => rfl) fun ac w h => ?_, ?_⟩
    · have e11 : ac.tmps.getD 11 undef = .bool false := h.dep 11 (by kernel_rfl)
      exact not_wants (d := 11) rfl rfl (by rw [h.size]; show 11 < 20; decide) e11 (by decide)
    refine ⟨Fg.skipped rfl (fun _ => rfl) fun ac w h => ?_, ?_⟩
    · have e11 : ac.tmps.getD 11 undef = .bool false := h.dep 11 (by kernel_rfl)
      exact not_wants (d := 11) rfl rfl (by rw [h.size]; show 11 < 20; decide) e11 (by decide)
    refine ⟨Fg.skipped rfl (fun _ => rfl) fun ac w h => ?_, ?_⟩
    · have e11 : ac.tmps.getD 11 undef = .bool false := h.dep 11 (by kernel_rfl)
      exact not_wants (d := 11) rfl rfl (by rw [h.size]; show 11 < 20; decide) e11 (by decide)
    refine ⟨Fg.skipped rfl (fun _ => rfl) fun ac w h => ?_, ?_⟩
    · have e11 : ac.tmps.getD 11 undef = .bool false := h.dep 11 (by kernel_rfl)
      exact not_wants (d := 11) rfl rfl (by rw [h.size]; show 11 < 20; decide) e11 (by decide)
    refine ⟨Fg.skipped rfl (fun _ => rfl) fun ac w h => ?_, ?_⟩
    · have e11 : ac.tmps.getD 11 undef = .bool false := h.dep 11 (by kernel_rfl)
      exact not_wants (d := 11) rfl rfl (by rw [h.size]; show 11 < 20; decide) e11 (by decide)
    refine ⟨Fg.skipped rfl (fun _ => rfl) fun ac w h => ?_, ?_⟩
    · have e11 : ac.tmps.getD 11 undef = .bool false := h.dep 11 (by kernel_rfl)
      exact not_wants (d := 11) rfl rfl (by rw [h.size]; show 11 < 20; decide) e11 (by decide)
    refine ⟨Fg.value rfl fun ac w h => ?_, ?_⟩
    · have e11 : ac.tmps.getD 11 undef = .bool false := h.dep 11 (by kernel_rfl)
      refine ⟨wants_none rfl, .bool false, w, ?_, gb_refl _ _, rfl⟩
      clear h
      simp only [execOp, Act.eval, e11]
      go_simp
    refine ⟨Fg.value rfl fun ac w h => ?_, ?_⟩
    · have e19 : ac.tmps.getD 19 undef = .bool false := h.dep 19 (by kernel_rfl)
      refine ⟨wants_none rfl, .bool false, w, ?_, gb_refl _ _, rfl⟩
      clear h
      simp only [execOp, Act.eval, e19]
      go_simp
    trivial
  · intro aq wq hB hsz hdf hrest hslots _
    obtain ⟨u5, hs5⟩ : ∃ u, aq.tmps.getD 5 undef = u := ⟨_, rfl⟩
    obtain ⟨u6, hs6⟩ : ∃ u, aq.tmps.getD 6 undef = u := ⟨_, rfl⟩
    obtain ⟨u7, hs7⟩ : ∃ u, aq.tmps.getD 7 undef = u := ⟨_, rfl⟩
    obtain ⟨u8, hs8⟩ : ∃ u, aq.tmps.getD 8 undef = u := ⟨_, rfl⟩
    obtain ⟨u9, hs9⟩ : ∃ u, aq.tmps.getD 9 undef = u := ⟨_, rfl⟩
    obtain ⟨u10, hs10⟩ : ∃ u, aq.tmps.getD 10 undef = u := ⟨_, rfl⟩
    obtain ⟨u11, hs11⟩ : ∃ u, aq.tmps.getD 11 undef = u := ⟨_, rfl⟩
    obtain ⟨u12, hs12⟩ : ∃ u, aq.tmps.getD 12 undef = u := ⟨_, rfl⟩
    obtain ⟨u13, hs13⟩ : ∃ u, aq.tmps.getD 13 undef = u := ⟨_, rfl⟩
    obtain ⟨u14, hs14⟩ : ∃ u, aq.tmps.getD 14 undef = u := ⟨_, rfl⟩
    obtain ⟨u15, hs15⟩ : ∃ u, aq.tmps.getD 15 undef = u := ⟨_, rfl⟩
    obtain ⟨u16, hs16⟩ : ∃ u, aq.tmps.getD 16 undef = u := ⟨_, rfl⟩
    obtain ⟨u17, hs17⟩ : ∃ u, aq.tmps.getD 17 undef = u := ⟨_, rfl⟩
    obtain ⟨u18, hs18⟩ : ∃ u, aq.tmps.getD 18 undef = u := ⟨_, rfl⟩
    obtain ⟨u19, hs19⟩ : ∃ u, aq.tmps.getD 19 undef = u := ⟨_, rfl⟩
    obtain rfl := Fg.frame_is (a := aq) (vs := [Value.slice a n cap, Value.agg #[iV x, iV y], undef, Value.pointer (some ⟨N, 0, none⟩), Value.bool false, u5, u6, u7, u8, u9, u10, u11, u12, u13, u14, u15, u16, u17, u18, u19]) hsz ⟨hrest 0 (by kernel_rfl), hrest 1 (by kernel_rfl), hrest 2 (by kernel_rfl), hrest 3 (by kernel_rfl), (show aq.tmps.getD 4 undef = Value.bool false from hslots 4 (by kernel_rfl)), hs5, hs6, hs7, hs8, hs9, hs10, hs11, hs12, hs13, hs14, hs15, hs16, hs17, hs18, hs19, trivial⟩ hdf
    have HB0 := Lib.hid hB
    clear hB hsz hdf hrest hslots hs5 hs6 hs7 hs8 hs9 hs10 hs11 hs12 hs13 hs14 hs15 hs16 hs17 hs18 hs19
    go_wp2
    exact HQ.out _ HB0.out
set_option maxHeartbeats 1000000 in
theorem refHas_B (n cap : Nat) (a : Option Addr) (x y : Int) (w W1 : World) (N : Nat) (Q : Ending → World → Prop) (hN : N = w.heap.size) (hW1 : W1 = w.alloc (.cells #[iV x, iV y] 25))
    (hR : ∀ W, W1.grownBy W none → Calls Tryz.prog 13 #[.slice a n cap] W fun e w' => e = .returned (.bool true) ∧ W.grownBy w' none)
    (hD : ∀ W, Calls Tryz.prog 25 #[.agg #[iV x, iV y]] W (BOut W false))
    (hQ : ∀ w', W1.grownBy w' none → Q (.returned (.bool false)) w') : Calls Tryz.prog 14 #[.slice a n cap, .agg #[iV x, iV y]] w Q := by
  have HR := Lib.hid hR; clear hR
  have HD := Lib.hid hD; clear hD
  have HQ := Lib.hid hQ; clear hQ
  have HK : Hid (∀ {w' : World}, W1.grownBy w' none → w'.cell? ⟨N, 0, none⟩ = some (iV x) ∧ w'.cell? ⟨N, 1, none⟩ = some (iV y)) := fun {w'} hg => by
    have hB : Blk W1 N 25 [iV x, iV y] := by rw [hW1, hN]; exact Blk.new w _ _
    have hB2 := hB.grown hg (by simp)
    exact ⟨hB2.cell (i := 0) rfl, hB2.cell (i := 1) rfl⟩
  go_enter Tryz.func14, Tryz.ntmps14
  go_wp2_with fail
  rw [← hW1, ← hN]
  clear hW1 hN
  refine wp_region_flow3 (Fg.its [.any, .any, .any, .any, .val (.bool false), .val (.slice a n cap), .val (.bool true), .val (.bool true), .val (.agg #[iV x, iV y]), .val (.bool false), .val (.bool false), .val (.bool false), .val undef, .val undef, .val undef, .val undef, .val undef, .val undef, .val undef, .val (.bool false)]) (fun _ => 0) (fun _ _ _ => True) (fun w => World.grownBy W1 w none) [] (by kernel_rfl) (by kernel_rfl) (by kernel_rfl) (gb_drew (gb_refl _ _)) (Fg.ptrs_nil _ _) (Fg.no_store (by kernel_rfl)) ?_ ?_
  · refine ⟨Fg.value rfl fun ac w h => ?_, ?_⟩
    · have e0 : ac.tmps.getD 0 undef = .slice a n cap := h.rest 0 (by kernel_rfl)
      refine ⟨wants_none rfl, .slice a n cap, w, ?_, gb_refl _ _, rfl⟩
      clear h
      simp only [execOp, Act.eval, e0]
      go_simp
    refine ⟨Fg.call rfl fun ac w h => ?_, ?_⟩
    · have e5 : ac.tmps.getD 5 undef = .slice a n cap := h.dep 5 (by kernel_rfl)
      have x5 : ac.tmps[5]?.getD undef = .slice a n cap := by simpa using e5
      have hb := h.base
      refine ⟨wants_none rfl, 13, #[.slice a n cap], ?_, ?_⟩
      · clear h hb e5
        go_simp
      · refine (HR.out w h.base).mono ?_
        intro e w1 hp
        obtain ⟨rfl, hg⟩ := hp
        exact ⟨_, rfl, hg, rfl⟩
    refine ⟨Fg.value rfl fun ac w h => ?_, ?_⟩
    · have e6 : ac.tmps.getD 6 undef = .bool true := h.dep 6 (by kernel_rfl)
      refine ⟨wants_none rfl, .bool true, w, ?_, gb_refl _ _, rfl⟩
      clear h
      simp only [execOp, Act.eval, e6]
      go_simp
    refine ⟨Fg.value rfl fun ac w h => ?_, ?_⟩
    · have e7 : ac.tmps.getD 7 undef = .bool true := h.dep 7 (by kernel_rfl)
      have e3 : ac.tmps.getD 3 undef = .pointer (some ⟨N, 0, none⟩) := h.rest 3 (by kernel_rfl)
      have c1 := (HK.out h.base).1
      have c2 := (HK.out h.base).2
      refine ⟨wants_some (d := 7) rfl rfl (by rw [h.size]; show 7 < 20; decide) e7, .agg #[iV x, iV y], w, ?_, gb_refl _ _, rfl⟩
      clear h
      simp only [execOp, Act.eval, e3]
      go_simp
    refine ⟨Fg.call rfl fun ac w h => ?_, ?_⟩
    · have e7 : ac.tmps.getD 7 undef = .bool true := h.dep 7 (by kernel_rfl)
      have e8 : ac.tmps.getD 8 undef = .agg #[iV x, iV y] := h.dep 8 (by kernel_rfl)
      have x8 : ac.tmps[8]?.getD undef = .agg #[iV x, iV y] := by simpa using e8
      have hb := h.base
      refine ⟨wants_some (d := 7) rfl rfl (by rw [h.size]; show 7 < 20; decide) e7, 25, #[.agg #[iV x, iV y]], ?_, ?_⟩
      · clear h hb e8
        go_simp
      · refine (HD.out w).mono ?_
        intro e w1 hp
        obtain ⟨rfl, hg⟩ := hp
        exact ⟨_, rfl, hg, rfl⟩
    refine ⟨Fg.value rfl fun ac w h => ?_, ?_⟩
    · have e7 : ac.tmps.getD 7 undef = .bool true := h.dep 7 (by kernel_rfl)
      have e9 : ac.tmps.getD 9 undef = .bool false := h.dep 9 (by kernel_rfl)
      refine ⟨wants_none rfl, .bool false, w, ?_, gb_refl _ _, rfl⟩
      clear h
      simp only [execOp, Act.eval, e7, e9]
      go_simp
    refine ⟨Fg.value rfl fun ac w h => ?_, ?_⟩
    · have e10 : ac.tmps.getD 10 undef = .bool false := h.dep 10 (by kernel_rfl)
      refine ⟨wants_none rfl, .bool false, w, ?_, gb_refl _ _, rfl⟩
      clear h
      simp only [execOp, Act.eval, e10]
      go_simp
    refine ⟨Fg.skipped rfl (fun _ => rfl) fun ac w h => ?_, ?_⟩
    · have e11 : ac.tmps.getD 11 undef = .bool false := h.dep 11 (by kernel_rfl)
      exact not_wants (d := 11) rfl rfl (by rw [h.size]; show 11 < 20; decide) e11 (by decide)
    refine ⟨Fg.skipped rfl (fun _ => rfl) fun ac w h => ?_, ?_⟩
    · have e11 : ac.tmps.getD 11 undef = .bool false := h.dep 11 (by kernel_rfl)
      exact not_wants (d := 11) rfl rfl (by rw [h.size]; show 11 < 20; decide) e11 (by decide)
    refine ⟨Fg.skipped rfl (fun _ => rfl) fun ac w h => ?_, ?_⟩
    · have e11 : ac.tmps.getD 11 undef = .bool false := h.dep 11 (by kernel_rfl)
      exact not_wants (d := 11) rfl rfl (by rw [h.size]; show 11 < 20; decide) e11 (by decide)
    refine ⟨Fg.skipped rfl (fun _ => rfl) fun ac w h => ?_, ?_⟩
    · have e11 : ac.tmps.getD 11 undef = .bool false := h.dep 11 (by kernel_rfl)
      exact not_wants (d := 11) rfl rfl (by rw [h.size]; show 11 < 20; decide) e11 (by decide)
    refine ⟨Fg.skipped rfl (fun _ => rfl) fun ac w h => ?_, ?_⟩
    · have e11 : ac.tmps.getD 11 undef = .bool false := h.dep 11 (by kernel_rfl)
      exact not_wants (d := 11) rfl rfl (by rw [h.size]; show 11 < 20; decide) e11 (by decide)
    refine ⟨Fg.skipped rfl (fun _ => rfl) fun ac w h => ?_, ?_⟩
    · have e11 : ac.tmps.getD 11 undef = .bool false := h.dep 11 (by kernel_rfl)
      exact not_wants (d := 11) rfl rfl (by rw [h.size]; show 11 < 20; decide) e11 (by decide)
    refine ⟨Fg.skipped rfl (fun _ => rfl) fun ac w h => ?_, ?_⟩
    · have e11 : ac.tmps.getD 11 undef = .bool false := h.dep 11 (by kernel_rfl)
      exact not_wants (d := 11) rfl rfl (by rw [h.size]; show 11 < 20; decide) e11 (by decide)
    refine ⟨Fg.value rfl fun ac w h => ?_, ?_⟩
    · have e11 : ac.tmps.getD 11 undef = .bool false := h.dep 11 (by kernel_rfl)
      refine ⟨wants_none rfl, .bool false, w, ?_, gb_refl _ _, rfl⟩
      clear h
      simp only [execOp, Act.eval, e11]
      go_simp
    refine ⟨Fg.value rfl fun ac w h => ?_, ?_⟩
    · have e19 : ac.tmps.getD 19 undef = .bool false := h.dep 19 (by kernel_rfl)
      refine ⟨wants_none rfl, .bool false, w, ?_, gb_refl _ _, rfl⟩
      clear h
      simp only [execOp, Act.eval, e19]
      go_simp
    trivial
  · intro aq wq hB hsz hdf hrest hslots _
    obtain ⟨u5, hs5⟩ : ∃ u, aq.tmps.getD 5 undef = u := ⟨_, rfl⟩
    obtain ⟨u6, hs6⟩ : ∃ u, aq.tmps.getD 6 undef = u := ⟨_, rfl⟩
    obtain ⟨u7, hs7⟩ : ∃ u, aq.tmps.getD 7 undef = u := ⟨_, rfl⟩
    obtain ⟨u8, hs8⟩ : ∃ u, aq.tmps.getD 8 undef = u := ⟨_, rfl⟩
    obtain ⟨u9, hs9⟩ : ∃ u, aq.tmps.getD 9 undef = u := ⟨_, rfl⟩
    obtain ⟨u10, hs10⟩ : ∃ u, aq.tmps.getD 10 undef = u := ⟨_, rfl⟩
    obtain ⟨u11, hs11⟩ : ∃ u, aq.tmps.getD 11 undef = u := ⟨_, rfl⟩
    obtain ⟨u12, hs12⟩ : ∃ u, aq.tmps.getD 12 undef = u := ⟨_, rfl⟩
    obtain ⟨u13, hs13⟩ : ∃ u, aq.tmps.getD 13 undef = u := ⟨_, rfl⟩
    obtain ⟨u14, hs14⟩ : ∃ u, aq.tmps.getD 14 undef = u := ⟨_, rfl⟩
    obtain ⟨u15, hs15⟩ : ∃ u, aq.tmps.getD 15 undef = u := ⟨_, rfl⟩
    obtain ⟨u16, hs16⟩ : ∃ u, aq.tmps.getD 16 undef = u := ⟨_, rfl⟩
    obtain ⟨u17, hs17⟩ : ∃ u, aq.tmps.getD 17 undef = u := ⟨_, rfl⟩
    obtain ⟨u18, hs18⟩ : ∃ u, aq.tmps.getD 18 undef = u := ⟨_, rfl⟩
    obtain ⟨u19, hs19⟩ : ∃ u, aq.tmps.getD 19 undef = u := ⟨_, rfl⟩
    obtain rfl := Fg.frame_is (a := aq) (vs := [Value.slice a n cap, Value.agg #[iV x, iV y], undef, Value.pointer (some ⟨N, 0, none⟩), Value.bool false, u5, u6, u7, u8, u9, u10, u11, u12, u13, u14, u15, u16, u17, u18, u19]) hsz ⟨hrest 0 (by kernel_rfl), hrest 1 (by kernel_rfl), hrest 2 (by kernel_rfl), hrest 3 (by kernel_rfl), (show aq.tmps.getD 4 undef = Value.bool false from hslots 4 (by kernel_rfl)), hs5, hs6, hs7, hs8, hs9, hs10, hs11, hs12, hs13, hs14, hs15, hs16, hs17, hs18, hs19, trivial⟩ hdf
    have HB0 := Lib.hid hB
    clear hB hsz hdf hrest hslots hs5 hs6 hs7 hs8 hs9 hs10 hs11 hs12 hs13 hs14 hs15 hs16 hs17 hs18 hs19
    go_wp2
    exact HQ.out _ HB0.out
set_option maxHeartbeats 1000000 in
theorem refHas_C (n cap : Nat) (a : Option Addr) (x y u : Int) (w W1 : World) (N : Nat) (Q : Ending → World → Prop) (hN : N = w.heap.size) (hW1 : W1 = w.alloc (.cells #[iV x, iV y] 25))
    (hR : ∀ W, W1.grownBy W none → Calls Tryz.prog 13 #[.slice a n cap] W fun e w' => e = .returned (.bool true) ∧ W.grownBy w' none)
    (hD : ∀ W, Calls Tryz.prog 25 #[.agg #[iV x, iV y]] W (BOut W true))
    (hU : ∀ W, W1.grownBy W none → Calls Tryz.prog 26 #[.slice a n cap, iV x] W fun e w' => e = .returned (iV u) ∧ W.grownBy w' none)
    (hy : decide (y ≤ u) = true)
    (hQ : ∀ w', W1.grownBy w' none → Q (.returned (.bool true)) w') : Calls Tryz.prog 14 #[.slice a n cap, .agg #[iV x, iV y]] w Q := by
  have HR := Lib.hid hR; clear hR
  have HD := Lib.hid hD; clear hD
  have HU := Lib.hid hU; clear hU
  have HQ := Lib.hid hQ; clear hQ
  have HK : Hid (∀ {w' : World}, W1.grownBy w' none → w'.cell? ⟨N, 0, none⟩ = some (iV x) ∧ w'.cell? ⟨N, 1, none⟩ = some (iV y)) := fun {w'} hg => by
    have hB : Blk W1 N 25 [iV x, iV y] := by rw [hW1, hN]; exact Blk.new w _ _
    have hB2 := hB.grown hg (by simp)
    exact ⟨hB2.cell (i := 0) rfl, hB2.cell (i := 1) rfl⟩
  go_enter Tryz.func14, Tryz.ntmps14
  go_wp2_with fail
  rw [← hW1, ← hN]
  clear hW1 hN
  refine wp_region_flow3 (Fg.its [.any, .any, .any, .any, .val (.bool true), .val (.slice a n cap), .val (.bool true), .val (.bool true), .val (.agg #[iV x, iV y]), .val (.bool true), .val (.bool true), .val (.bool true), .val (.slice a n cap), .val (.pointer (some ⟨N, 0, none⟩)), .val (iV x), .val (iV u), .val (.pointer (some ⟨N, 1, none⟩)), .val (iV y), .val (.bool true), .val (.bool true)]) (fun _ => 0) (fun _ _ _ => True) (fun w => World.grownBy W1 w none) [] (by kernel_rfl) (by kernel_rfl) (by kernel_rfl) (gb_drew (gb_refl _ _)) (Fg.ptrs_nil _ _) (Fg.no_store (by kernel_rfl)) ?_ ?_
  · refine ⟨Fg.value rfl fun ac w h => ?_, ?_⟩
    · have e0 : ac.tmps.getD 0 undef = .slice a n cap := h.rest 0 (by kernel_rfl)
      refine ⟨wants_none rfl, .slice a n cap, w, ?_, gb_refl _ _, rfl⟩
      clear h
      simp only [execOp, Act.eval, e0]
      go_simp
    refine ⟨Fg.call rfl fun ac w h => ?_, ?_⟩
    · have e5 : ac.tmps.getD 5 undef = .slice a n cap := h.dep 5 (by kernel_rfl)
      have x5 : ac.tmps[5]?.getD undef = .slice a n cap := by simpa using e5
      have hb := h.base
      refine ⟨wants_none rfl, 13, #[.slice a n cap], ?_, ?_⟩
      · clear h hb e5
        go_simp
      · refine (HR.out w h.base).mono ?_
        intro e w1 hp
        obtain ⟨rfl, hg⟩ := hp
        exact ⟨_, rfl, hg, rfl⟩
    refine ⟨Fg.value rfl fun ac w h => ?_, ?_⟩
    · have e6 : ac.tmps.getD 6 undef = .bool true := h.dep 6 (by kernel_rfl)
      refine ⟨wants_none rfl, .bool true, w, ?_, gb_refl _ _, rfl⟩
      clear h
      simp only [execOp, Act.eval, e6]
      go_simp
    refine ⟨Fg.value rfl fun ac w h => ?_, ?_⟩
    · have e7 : ac.tmps.getD 7 undef = .bool true := h.dep 7 (by kernel_rfl)
      have e3 : ac.tmps.getD 3 undef = .pointer (some ⟨N, 0, none⟩) := h.rest 3 (by kernel_rfl)
      have c1 := (HK.out h.base).1
      have c2 := (HK.out h.base).2
      refine ⟨wants_some (d := 7) rfl rfl (by rw [h.size]; show 7 < 20; decide) e7, .agg #[iV x, iV y], w, ?_, gb_refl _ _, rfl⟩
      clear h
      simp only [execOp, Act.eval, e3]
      go_simp
    refine ⟨Fg.call rfl fun ac w h => ?_, ?_⟩
    · have e7 : ac.tmps.getD 7 undef = .bool true := h.dep 7 (by kernel_rfl)
      have e8 : ac.tmps.getD 8 undef = .agg #[iV x, iV y] := h.dep 8 (by kernel_rfl)
      have x8 : ac.tmps[8]?.getD undef = .agg #[iV x, iV y] := by simpa using e8
      have hb := h.base
      refine ⟨wants_some (d := 7) rfl rfl (by rw [h.size]; show 7 < 20; decide) e7, 25, #[.agg #[iV x, iV y]], ?_, ?_⟩
      · clear h hb e8
        go_simp
      · refine (HD.out w).mono ?_
        intro e w1 hp
        obtain ⟨rfl, hg⟩ := hp
        exact ⟨_, rfl, hg, rfl⟩
    refine ⟨Fg.value rfl fun ac w h => ?_, ?_⟩
    · have e7 : ac.tmps.getD 7 undef = .bool true := h.dep 7 (by kernel_rfl)
      have e9 : ac.tmps.getD 9 undef = .bool true := h.dep 9 (by kernel_rfl)
      refine ⟨wants_none rfl, .bool true, w, ?_, gb_refl _ _, rfl⟩
      clear h
      simp only [execOp, Act.eval, e7, e9]
      go_simp
    refine ⟨Fg.value rfl fun ac w h => ?_, ?_⟩
    · have e10 : ac.tmps.getD 10 undef = .bool true := h.dep 10 (by kernel_rfl)
      refine ⟨wants_none rfl, .bool true, w, ?_, gb_refl _ _, rfl⟩
      clear h
      simp only [execOp, Act.eval, e10]
      go_simp
    refine ⟨Fg.value rfl fun ac w h => ?_, ?_⟩
    · have e11 : ac.tmps.getD 11 undef = .bool true := h.dep 11 (by kernel_rfl)
      have e0 : ac.tmps.getD 0 undef = .slice a n cap := h.rest 0 (by kernel_rfl)
      refine ⟨wants_some (d := 11) rfl rfl (by rw [h.size]; show 11 < 20; decide) e11, .slice a n cap, w, ?_, gb_refl _ _, rfl⟩
      clear h
      simp only [execOp, Act.eval, e0]
      go_simp
    refine ⟨Fg.value rfl fun ac w h => ?_, ?_⟩
    · have e11 : ac.tmps.getD 11 undef = .bool true := h.dep 11 (by kernel_rfl)
      have e3 : ac.tmps.getD 3 undef = .pointer (some ⟨N, 0, none⟩) := h.rest 3 (by kernel_rfl)
      refine ⟨wants_some (d := 11) rfl rfl (by rw [h.size]; show 11 < 20; decide) e11, .pointer (some ⟨N, 0, none⟩), w, ?_, gb_refl _ _, rfl⟩
      clear h
      simp only [execOp, Act.eval, e3]
      go_simp
    refine ⟨Fg.value rfl fun ac w h => ?_, ?_⟩
    · have e11 : ac.tmps.getD 11 undef = .bool true := h.dep 11 (by kernel_rfl)
      have e13 : ac.tmps.getD 13 undef = .pointer (some ⟨N, 0, none⟩) := h.dep 13 (by kernel_rfl)
      have c1 := (HK.out h.base).1
      have c2 := (HK.out h.base).2
      refine ⟨wants_some (d := 11) rfl rfl (by rw [h.size]; show 11 < 20; decide) e11, iV x, w, ?_, gb_refl _ _, rfl⟩
      clear h
      simp only [execOp, Act.eval, e13]
      go_simp
    refine ⟨Fg.call rfl fun ac w h => ?_, ?_⟩
    · have e11 : ac.tmps.getD 11 undef = .bool true := h.dep 11 (by kernel_rfl)
      have e12 : ac.tmps.getD 12 undef = .slice a n cap := h.dep 12 (by kernel_rfl)
      have x12 : ac.tmps[12]?.getD undef = .slice a n cap := by simpa using e12
      have e14 : ac.tmps.getD 14 undef = iV x := h.dep 14 (by kernel_rfl)
      have x14 : ac.tmps[14]?.getD undef = iV x := by simpa using e14
      have hb := h.base
      refine ⟨wants_some (d := 11) rfl rfl (by rw [h.size]; show 11 < 20; decide) e11, 26, #[.slice a n cap, iV x], ?_, ?_⟩
      · clear h hb e12 e14
        go_simp
      · refine (HU.out w h.base).mono ?_
        intro e w1 hp
        obtain ⟨rfl, hg⟩ := hp
        exact ⟨_, rfl, hg, rfl⟩
    refine ⟨Fg.value rfl fun ac w h => ?_, ?_⟩
    · have e11 : ac.tmps.getD 11 undef = .bool true := h.dep 11 (by kernel_rfl)
      have e3 : ac.tmps.getD 3 undef = .pointer (some ⟨N, 0, none⟩) := h.rest 3 (by kernel_rfl)
      refine ⟨wants_some (d := 11) rfl rfl (by rw [h.size]; show 11 < 20; decide) e11, .pointer (some ⟨N, 1, none⟩), w, ?_, gb_refl _ _, rfl⟩
      clear h
      simp only [execOp, Act.eval, e3]
      go_simp
    refine ⟨Fg.value rfl fun ac w h => ?_, ?_⟩
    · have e11 : ac.tmps.getD 11 undef = .bool true := h.dep 11 (by kernel_rfl)
      have e16 : ac.tmps.getD 16 undef = .pointer (some ⟨N, 1, none⟩) := h.dep 16 (by kernel_rfl)
      have c1 := (HK.out h.base).1
      have c2 := (HK.out h.base).2
      refine ⟨wants_some (d := 11) rfl rfl (by rw [h.size]; show 11 < 20; decide) e11, iV y, w, ?_, gb_refl _ _, rfl⟩
      clear h
      simp only [execOp, Act.eval, e16]
      go_simp
    refine ⟨Fg.value rfl fun ac w h => ?_, ?_⟩
    · have e11 : ac.tmps.getD 11 undef = .bool true := h.dep 11 (by kernel_rfl)
      have e15 : ac.tmps.getD 15 undef = iV u := h.dep 15 (by kernel_rfl)
      have e17 : ac.tmps.getD 17 undef = iV y := h.dep 17 (by kernel_rfl)
      refine ⟨wants_some (d := 11) rfl rfl (by rw [h.size]; show 11 < 20; decide) e11, .bool true, w, ?_, gb_refl _ _, rfl⟩
      clear h
      simp only [execOp, Act.eval, e15, e17]
      go_simp
    refine ⟨Fg.value rfl fun ac w h => ?_, ?_⟩
    · have e11 : ac.tmps.getD 11 undef = .bool true := h.dep 11 (by kernel_rfl)
      have e18 : ac.tmps.getD 18 undef = .bool true := h.dep 18 (by kernel_rfl)
      refine ⟨wants_none rfl, .bool true, w, ?_, gb_refl _ _, rfl⟩
      clear h
      simp only [execOp, Act.eval, e11, e18]
      go_simp
    refine ⟨Fg.value rfl fun ac w h => ?_, ?_⟩
    · have e19 : ac.tmps.getD 19 undef = .bool true := h.dep 19 (by kernel_rfl)
      refine ⟨wants_none rfl, .bool true, w, ?_, gb_refl _ _, rfl⟩
      clear h
      simp only [execOp, Act.eval, e19]
      go_simp
    trivial
  · intro aq wq hB hsz hdf hrest hslots _
    obtain ⟨u5, hs5⟩ : ∃ u, aq.tmps.getD 5 undef = u := ⟨_, rfl⟩
    obtain ⟨u6, hs6⟩ : ∃ u, aq.tmps.getD 6 undef = u := ⟨_, rfl⟩
    obtain ⟨u7, hs7⟩ : ∃ u, aq.tmps.getD 7 undef = u := ⟨_, rfl⟩
    obtain ⟨u8, hs8⟩ : ∃ u, aq.tmps.getD 8 undef = u := ⟨_, rfl⟩
    obtain ⟨u9, hs9⟩ : ∃ u, aq.tmps.getD 9 undef = u := ⟨_, rfl⟩
    obtain ⟨u10, hs10⟩ : ∃ u, aq.tmps.getD 10 undef = u := ⟨_, rfl⟩
    obtain ⟨u11, hs11⟩ : ∃ u, aq.tmps.getD 11 undef = u := ⟨_, rfl⟩
    obtain ⟨u12, hs12⟩ : ∃ u, aq.tmps.getD 12 undef = u := ⟨_, rfl⟩
    obtain ⟨u13, hs13⟩ : ∃ u, aq.tmps.getD 13 undef = u := ⟨_, rfl⟩
    obtain ⟨u14, hs14⟩ : ∃ u, aq.tmps.getD 14 undef = u := ⟨_, rfl⟩
    obtain ⟨u15, hs15⟩ : ∃ u, aq.tmps.getD 15 undef = u := ⟨_, rfl⟩
    obtain ⟨u16, hs16⟩ : ∃ u, aq.tmps.getD 16 undef = u := ⟨_, rfl⟩
    obtain ⟨u17, hs17⟩ : ∃ u, aq.tmps.getD 17 undef = u := ⟨_, rfl⟩
    obtain ⟨u18, hs18⟩ : ∃ u, aq.tmps.getD 18 undef = u := ⟨_, rfl⟩
    obtain ⟨u19, hs19⟩ : ∃ u, aq.tmps.getD 19 undef = u := ⟨_, rfl⟩
    obtain rfl := Fg.frame_is (a := aq) (vs := [Value.slice a n cap, Value.agg #[iV x, iV y], undef, Value.pointer (some ⟨N, 0, none⟩), Value.bool true, u5, u6, u7, u8, u9, u10, u11, u12, u13, u14, u15, u16, u17, u18, u19]) hsz ⟨hrest 0 (by kernel_rfl), hrest 1 (by kernel_rfl), hrest 2 (by kernel_rfl), hrest 3 (by kernel_rfl), (show aq.tmps.getD 4 undef = Value.bool true from hslots 4 (by kernel_rfl)), hs5, hs6, hs7, hs8, hs9, hs10, hs11, hs12, hs13, hs14, hs15, hs16, hs17, hs18, hs19, trivial⟩ hdf
    have HB0 := Lib.hid hB
    clear hB hsz hdf hrest hslots hs5 hs6 hs7 hs8 hs9 hs10 hs11 hs12 hs13 hs14 hs15 hs16 hs17 hs18 hs19
    go_wp2
    exact HQ.out _ HB0.out
set_option maxHeartbeats 1000000 in
theorem refHas_E (n cap : Nat) (a : Option Addr) (x y u : Int) (w W1 : World) (N : Nat) (Q : Ending → World → Prop) (hN : N = w.heap.size) (hW1 : W1 = w.alloc (.cells #[iV x, iV y] 25))
    (hR : ∀ W, W1.grownBy W none → Calls Tryz.prog 13 #[.slice a n cap] W fun e w' => e = .returned (.bool true) ∧ W.grownBy w' none)
    (hD : ∀ W, Calls Tryz.prog 25 #[.agg #[iV x, iV y]] W (BOut W true))
    (hU : ∀ W, W1.grownBy W none → Calls Tryz.prog 26 #[.slice a n cap, iV x] W fun e w' => e = .returned (iV u) ∧ W.grownBy w' none)
    (hy : decide (y ≤ u) = false)
    (hQ : ∀ w', W1.grownBy w' none → Q (.returned (.bool false)) w') : Calls Tryz.prog 14 #[.slice a n cap, .agg #[iV x, iV y]] w Q := by
  have HR := Lib.hid hR; clear hR
  have HD := Lib.hid hD; clear hD
  have HU := Lib.hid hU; clear hU
  have HQ := Lib.hid hQ; clear hQ
  have HK : Hid (∀ {w' : World}, W1.grownBy w' none → w'.cell? ⟨N, 0, none⟩ = some (iV x) ∧ w'.cell? ⟨N, 1, none⟩ = some (iV y)) := fun {w'} hg => by
    have hB : Blk W1 N 25 [iV x, iV y] := by rw [hW1, hN]; exact Blk.new w _ _
    have hB2 := hB.grown hg (by simp)
    exact ⟨hB2.cell (i := 0) rfl, hB2.cell (i := 1) rfl⟩
  go_enter Tryz.func14, Tryz.ntmps14
  go_wp2_with fail
  rw [← hW1, ← hN]
  clear hW1 hN
  refine wp_region_flow3 (Fg.its [.any, .any, .any, .any, .val (.bool false), .val (.slice a n cap), .val (.bool true), .val (.bool true), .val (.agg #[iV x, iV y]), .val (.bool true), .val (.bool true), .val (.bool true), .val (.slice a n cap), .val (.pointer (some ⟨N, 0, none⟩)), .val (iV x), .val (iV u), .val (.pointer (some ⟨N, 1, none⟩)), .val (iV y), .val (.bool false), .val (.bool false)]) (fun _ => 0) (fun _ _ _ => True) (fun w => World.grownBy W1 w none) [] (by kernel_rfl) (by kernel_rfl) (by kernel_rfl) (gb_drew (gb_refl _ _)) (Fg.ptrs_nil _ _) (Fg.no_store (by kernel_rfl)) ?_ ?_
  · refine ⟨Fg.value rfl fun ac w h => ?_, ?_⟩
    · have e0 : ac.tmps.getD 0 undef = .slice a n cap := h.rest 0 (by kernel_rfl)
      refine ⟨wants_none rfl, .slice a n cap, w, ?_, gb_refl _ _, rfl⟩
      clear h
      simp only [execOp, Act.eval, e0]
      go_simp
    refine ⟨Fg.call rfl fun ac w h => ?_, ?_⟩
    · have e5 : ac.tmps.getD 5 undef = .slice a n cap := h.dep 5 (by kernel_rfl)
      have x5 : ac.tmps[5]?.getD undef = .slice a n cap := by simpa using e5
      have hb := h.base
      refine ⟨wants_none rfl, 13, #[.slice a n cap], ?_, ?_⟩
      · clear h hb e5
        go_simp
      · refine (HR.out w h.base).mono ?_
        intro e w1 hp
        obtain ⟨rfl, hg⟩ := hp
        exact ⟨_, rfl, hg, rfl⟩
    refine ⟨Fg.value rfl fun ac w h => ?_, ?_⟩
    · have e6 : ac.tmps.getD 6 undef = .bool true := h.dep 6 (by kernel_rfl)
      refine ⟨wants_none rfl, .bool true, w, ?_, gb_refl _ _, rfl⟩
      clear h
      simp only [execOp, Act.eval, e6]
      go_simp
    refine ⟨Fg.value rfl fun ac w h => ?_, ?_⟩
    · have e7 : ac.tmps.getD 7 undef = .bool true := h.dep 7 (by kernel_rfl)
      have e3 : ac.tmps.getD 3 undef = .pointer (some ⟨N, 0, none⟩) := h.rest 3 (by kernel_rfl)
      have c1 := (HK.out h.base).1
      have c2 := (HK.out h.base).2
      refine ⟨wants_some (d := 7) rfl rfl (by rw [h.size]; show 7 < 20; decide) e7, .agg #[iV x, iV y], w, ?_, gb_refl _ _, rfl⟩
      clear h
      simp only [execOp, Act.eval, e3]
      go_simp
    refine ⟨Fg.call rfl fun ac w h => ?_, ?_⟩
    · have e7 : ac.tmps.getD 7 undef = .bool true := h.dep 7 (by kernel_rfl)
      have e8 : ac.tmps.getD 8 undef = .agg #[iV x, iV y] := h.dep 8 (by kernel_rfl)
      have x8 : ac.tmps[8]?.getD undef = .agg #[iV x, iV y] := by simpa using e8
      have hb := h.base
      refine ⟨wants_some (d := 7) rfl rfl (by rw [h.size]; show 7 < 20; decide) e7, 25, #[.agg #[iV x, iV y]], ?_, ?_⟩
      · clear h hb e8
        go_simp
      · refine (HD.out w).mono ?_
        intro e w1 hp
        obtain ⟨rfl, hg⟩ := hp
        exact ⟨_, rfl, hg, rfl⟩
    refine ⟨Fg.value rfl fun ac w h => ?_, ?_⟩
    · have e7 : ac.tmps.getD 7 undef = .bool true := h.dep 7 (by kernel_rfl)
      have e9 : ac.tmps.getD 9 undef = .bool true := h.dep 9 (by kernel_rfl)
      refine ⟨wants_none rfl, .bool true, w, ?_, gb_refl _ _, rfl⟩
      clear h
      simp only [execOp, Act.eval, e7, e9]
      go_simp
    refine ⟨Fg.value rfl fun ac w h => ?_, ?_⟩
    · have e10 : ac.tmps.getD 10 undef = .bool true := h.dep 10 (by kernel_rfl)
      refine ⟨wants_none rfl, .bool true, w, ?_, gb_refl _ _, rfl⟩
      clear h
      simp only [execOp, Act.eval, e10]
      go_simp
    refine ⟨Fg.value rfl fun ac w h => ?_, ?_⟩
    · have e11 : ac.tmps.getD 11 undef = .bool true := h.dep 11 (by kernel_rfl)
      have e0 : ac.tmps.getD 0 undef = .slice a n cap := h.rest 0 (by kernel_rfl)
      refine ⟨wants_some (d := 11) rfl rfl (by rw [h.size]; show 11 < 20; decide) e11, .slice a n cap, w, ?_, gb_refl _ _, rfl⟩
      clear h
      simp only [execOp, Act.eval, e0]
      go_simp
    refine ⟨Fg.value rfl fun ac w h => ?_, ?_⟩
    · have e11 : ac.tmps.getD 11 undef = .bool true := h.dep 11 (by kernel_rfl)
      have e3 : ac.tmps.getD 3 undef = .pointer (some ⟨N, 0, none⟩) := h.rest 3 (by kernel_rfl)
      refine ⟨wants_some (d := 11) rfl rfl (by rw [h.size]; show 11 < 20; decide) e11, .pointer (some ⟨N, 0, none⟩), w, ?_, gb_refl _ _, rfl⟩
      clear h
      simp only [execOp, Act.eval, e3]
      go_simp
    refine ⟨Fg.value rfl fun ac w h => ?_, ?_⟩
    · have e11 : ac.tmps.getD 11 undef = .bool true := h.dep 11 (by kernel_rfl)
      have e13 : ac.tmps.getD 13 undef = .pointer (some ⟨N, 0, none⟩) := h.dep 13 (by kernel_rfl)
      have c1 := (HK.out h.base).1
      have c2 := (HK.out h.base).2
      refine ⟨wants_some (d := 11) rfl rfl (by rw [h.size]; show 11 < 20; decide) e11, iV x, w, ?_, gb_refl _ _, rfl⟩
      clear h
      simp only [execOp, Act.eval, e13]
      go_simp
    refine ⟨Fg.call rfl fun ac w h => ?_, ?_⟩
    · have e11 : ac.tmps.getD 11 undef = .bool true := h.dep 11 (by kernel_rfl)
      have e12 : ac.tmps.getD 12 undef = .slice a n cap := h.dep 12 (by kernel_rfl)
      have x12 : ac.tmps[12]?.getD undef = .slice a n cap := by simpa using e12
      have e14 : ac.tmps.getD 14 undef = iV x := h.dep 14 (by kernel_rfl)
      have x14 : ac.tmps[14]?.getD undef = iV x := by simpa using e14
      have hb := h.base
      refine ⟨wants_some (d := 11) rfl rfl (by rw [h.size]; show 11 < 20; decide) e11, 26, #[.slice a n cap, iV x], ?_, ?_⟩
      · clear h hb e12 e14
        go_simp
      · refine (HU.out w h.base).mono ?_
        intro e w1 hp
        obtain ⟨rfl, hg⟩ := hp
        exact ⟨_, rfl, hg, rfl⟩
    refine ⟨Fg.value rfl fun ac w h => ?_, ?_⟩
    · have e11 : ac.tmps.getD 11 undef = .bool true := h.dep 11 (by kernel_rfl)
      have e3 : ac.tmps.getD 3 undef = .pointer (some ⟨N, 0, none⟩) := h.rest 3 (by kernel_rfl)
      refine ⟨wants_some (d := 11) rfl rfl (by rw [h.size]; show 11 < 20; decide) e11, .pointer (some ⟨N, 1, none⟩), w, ?_, gb_refl _ _, rfl⟩
      clear h
      simp only [execOp, Act.eval, e3]
      go_simp
    refine ⟨Fg.value rfl fun ac w h => ?_, ?_⟩
    · have e11 : ac.tmps.getD 11 undef = .bool true := h.dep 11 (by kernel_rfl)
      have e16 : ac.tmps.getD 16 undef = .pointer (some ⟨N, 1, none⟩) := h.dep 16 (by kernel_rfl)
      have c1 := (HK.out h.base).1
      have c2 := (HK.out h.base).2
      refine ⟨wants_some (d := 11) rfl rfl (by rw [h.size]; show 11 < 20; decide) e11, iV y, w, ?_, gb_refl _ _, rfl⟩
      clear h
      simp only [execOp, Act.eval, e16]
      go_simp
    refine ⟨Fg.value rfl fun ac w h => ?_, ?_⟩
    · have e11 : ac.tmps.getD 11 undef = .bool true := h.dep 11 (by kernel_rfl)
      have e15 : ac.tmps.getD 15 undef = iV u := h.dep 15 (by kernel_rfl)
      have e17 : ac.tmps.getD 17 undef = iV y := h.dep 17 (by kernel_rfl)
      refine ⟨wants_some (d := 11) rfl rfl (by rw [h.size]; show 11 < 20; decide) e11, .bool false, w, ?_, gb_refl _ _, rfl⟩
      clear h
      simp only [execOp, Act.eval, e15, e17]
      go_simp
    refine ⟨Fg.value rfl fun ac w h => ?_, ?_⟩
    · have e11 : ac.tmps.getD 11 undef = .bool true := h.dep 11 (by kernel_rfl)
      have e18 : ac.tmps.getD 18 undef = .bool false := h.dep 18 (by kernel_rfl)
      refine ⟨wants_none rfl, .bool false, w, ?_, gb_refl _ _, rfl⟩
      clear h
      simp only [execOp, Act.eval, e11, e18]
      go_simp
    refine ⟨Fg.value rfl fun ac w h => ?_, ?_⟩
    · have e19 : ac.tmps.getD 19 undef = .bool false := h.dep 19 (by kernel_rfl)
      refine ⟨wants_none rfl, .bool false, w, ?_, gb_refl _ _, rfl⟩
      clear h
      simp only [execOp, Act.eval, e19]
      go_simp
    trivial
  · intro aq wq hB hsz hdf hrest hslots _
    obtain ⟨u5, hs5⟩ : ∃ u, aq.tmps.getD 5 undef = u := ⟨_, rfl⟩
    obtain ⟨u6, hs6⟩ : ∃ u, aq.tmps.getD 6 undef = u := ⟨_, rfl⟩
    obtain ⟨u7, hs7⟩ : ∃ u, aq.tmps.getD 7 undef = u := ⟨_, rfl⟩
    obtain ⟨u8, hs8⟩ : ∃ u, aq.tmps.getD 8 undef = u := ⟨_, rfl⟩
    obtain ⟨u9, hs9⟩ : ∃ u, aq.tmps.getD 9 undef = u := ⟨_, rfl⟩
    obtain ⟨u10, hs10⟩ : ∃ u, aq.tmps.getD 10 undef = u := ⟨_, rfl⟩
    obtain ⟨u11, hs11⟩ : ∃ u, aq.tmps.getD 11 undef = u := ⟨_, rfl⟩
    obtain ⟨u12, hs12⟩ : ∃ u, aq.tmps.getD 12 undef = u := ⟨_, rfl⟩
    obtain ⟨u13, hs13⟩ : ∃ u, aq.tmps.getD 13 undef = u := ⟨_, rfl⟩
    obtain ⟨u14, hs14⟩ : ∃ u, aq.tmps.getD 14 undef = u := ⟨_, rfl⟩
    obtain ⟨u15, hs15⟩ : ∃ u, aq.tmps.getD 15 undef = u := ⟨_, rfl⟩
    obtain ⟨u16, hs16⟩ : ∃ u, aq.tmps.getD 16 undef = u := ⟨_, rfl⟩
    obtain ⟨u17, hs17⟩ : ∃ u, aq.tmps.getD 17 undef = u := ⟨_, rfl⟩
    obtain ⟨u18, hs18⟩ : ∃ u, aq.tmps.getD 18 undef = u := ⟨_, rfl⟩
    obtain ⟨u19, hs19⟩ : ∃ u, aq.tmps.getD 19 undef = u := ⟨_, rfl⟩
    obtain rfl := Fg.frame_is (a := aq) (vs := [Value.slice a n cap, Value.agg #[iV x, iV y], undef, Value.pointer (some ⟨N, 0, none⟩), Value.bool false, u5, u6, u7, u8, u9, u10, u11, u12, u13, u14, u15, u16, u17, u18, u19]) hsz ⟨hrest 0 (by kernel_rfl), hrest 1 (by kernel_rfl), hrest 2 (by kernel_rfl), hrest 3 (by kernel_rfl), (show aq.tmps.getD 4 undef = Value.bool false from hslots 4 (by kernel_rfl)), hs5, hs6, hs7, hs8, hs9, hs10, hs11, hs12, hs13, hs14, hs15, hs16, hs17, hs18, hs19, trivial⟩ hdf
    have HB0 := Lib.hid hB
    clear hB hsz hdf hrest hslots hs5 hs6 hs7 hs8 hs9 hs10 hs11 hs12 hs13 hs14 hs15 hs16 hs17 hs18 hs19
    go_wp2
    exact HQ.out _ HB0.out
theorem refHas_any (B n cap : Nat) (a : Option Addr) (l : List D) (x y : Int) (w : World) (hn : l.length = n) (h : DotsAt w B a l) (hc : n < 9223372036854775808) :
    Calls Tryz.prog 14 #[.slice a n cap, .agg #[iV x, iV y]] w (BOut w (hasB l (x, y))) := by
  have hg0 : w.grownBy (w.alloc (.cells #[iV x, iV y] 25)) none := gb_alloc (gb_refl _ _) _
  have hR := fun W (hg : (w.alloc (.cells #[iV x, iV y] 25)).grownBy W none) => refRight_any B n cap a l W hn (h.stay (gb_trans hg0 hg)) hc
  have hU := fun W (hg : (w.alloc (.cells #[iV x, iV y] 25)).grownBy W none) => (refUp_any B n cap a l x W hn (h.stay (gb_trans hg0 hg)) hc).mono (R' := fun e w' => e = .returned (iV (up l x)) ∧ W.grownBy w' none) (fun e w' hh => ⟨hh.1, by rw [← hh.2]; exact gb_refl _ _⟩)
  unfold hasB
  cases hr : rtB 0 l with
  | false =>
    rw [hr] at hR
    exact refHas_A n cap a x y w _ _ _ rfl rfl hR (fun w' hg => ⟨rfl, gb_trans hg0 hg⟩)
  | true =>
    rw [hr] at hR
    cases hd : okD (x, y) with
    | false => exact refHas_B n cap a x y w _ _ _ rfl rfl hR (fun W => refDot_any false x y W hd) (fun w' hg => ⟨rfl, gb_trans hg0 hg⟩)
    | true =>
      cases hy : decide (y ≤ up l x) with
      | true => exact refHas_C n cap a x y (up l x) w _ _ _ rfl rfl hR (fun W => refDot_any true x y W hd) hU hy (fun w' hg => ⟨rfl, gb_trans hg0 hg⟩)
      | false => exact refHas_E n cap a x y (up l x) w _ _ _ rfl rfl hR (fun W => refDot_any true x y W hd) hU hy (fun w' hg => ⟨rfl, gb_trans hg0 hg⟩)
set_option maxHeartbeats 1000000 in
theorem refCovers_any (B1 B2 n1 n2 c1 c2 : Nat) (a1 a2 : Option Addr) (l1 l2 : List D) (w : World) (hn1 : l1.length = n1) (hn2 : l2.length = n2) (h1 : DotsAt w B1 a1 l1) (h2 : DotsAt w B2 a2 l2) (hc1 : n1 < 9223372036854775808) (hc2 : n2 < 9223372036854775808) :
    Calls Tryz.prog 16 #[.slice a1 n1 c1, .slice a2 n2 c2] w (BOut w (cvB l1 l2)) := by
  have HA := Lib.hid (fun w' (hg : w.grownBy w' none) => refRight_any B1 n1 c1 a1 l1 w' hn1 (h1.stay hg) hc1)
  have HB := Lib.hid (fun w' (hg : w.grownBy w' none) => refRight_any B2 n2 c2 a2 l2 w' hn2 (h2.stay hg) hc2)
  have HH := Lib.hid (fun x y w' (hg : w.grownBy w' none) => refHas_any B1 n1 c1 a1 l1 x y w' hn1 (h1.stay hg) hc1)
  have H2 := Lib.hid h2; clear h2
  have HN := Lib.hid (And.intro hn1 hn2); clear hn1 hn2 h1
  obtain ⟨Q, hQ⟩ : ∃ Q, Q = BOut w (cvB l1 l2) := ⟨_, rfl⟩
  rw [← hQ]
  have HQ : Hid (∀ b w', cvB l1 l2 = b → w.grownBy w' none → Q (.returned (.bool b)) w') := fun b w' hb hg => by rw [hQ, hb]; exact ⟨rfl, hg⟩
  clear hQ
  cases hx : rtB 0 l1 with
  | false =>
    rw [hx] at HA
    have HF := Lib.hid (show cvB l1 l2 = false by unfold cvB; rw [hx]; rfl)
    clear HB HH hx
    go_enter Tryz.func16, Tryz.ntmps16
    go_wp2_with fail
    refine (HA.out _ (gb_refl _ _)).mono ?_
    rintro e w1 ⟨rfl, hg⟩
    have HG := Lib.hid hg; clear hg
    go_wp2
    exact HQ.out _ _ HF.out HG.out
  | true =>
    rw [hx] at HA
    cases hy : rtB 0 l2 with
    | false =>
      rw [hy] at HB
      have HF := Lib.hid (show cvB l1 l2 = false by unfold cvB; rw [hx, hy]; rfl)
      clear HH hx hy
      go_enter Tryz.func16, Tryz.ntmps16
      go_wp2_with fail
      refine (HA.out _ (gb_refl _ _)).mono ?_
      rintro e w1 ⟨rfl, hg⟩
      have HG := Lib.hid hg; clear hg
      go_wp2_with fail
      refine (HB.out _ HG.out).mono ?_
      rintro e w2 ⟨rfl, hg⟩
      have HG2 := Lib.hid (gb_trans HG.out hg); clear hg
      go_wp2
      exact HQ.out _ _ HF.out HG2.out
    | true =>
      rw [hy] at HB
      have HF : Hid (cvB l1 l2 = covB l1 (l2.drop 0)) := by show cvB l1 l2 = covB l1 l2; unfold cvB; rw [hx, hy]; rfl
      have HOK : Hid (∀ d ∈ l2, okD d = true) := fun d hd => (okD_iff d).2 (by
        have := ((rtB_iff _ _).1 hy).mem d hd
        exact ⟨this.1, this.2.1, this.2.2.1, this.2.2.2, trivial⟩)
      have HX := Lib.hid hx
      clear hx hy
      go_enter Tryz.func16, Tryz.ntmps16
      go_wp2_with fail
      refine (HA.out _ (gb_refl _ _)).mono ?_
      rintro e w1 ⟨rfl, hg⟩
      have HG := Lib.hid hg; clear hg
      go_wp2_with fail
      refine (HB.out _ HG.out).mono ?_
      rintro e w2 ⟨rfl, hg⟩
      have HG2 := Lib.hid (gb_trans HG.out hg); clear hg
      go_wp2
      go_loopw [5] (fun i wr => ∃ k : Nat, k ≤ n2 ∧ i = .int .i64 k ∧ Hid (w.grownBy wr none ∧ cvB l1 l2 = covB l1 (l2.drop k))) (fun i _ => n2 - (intOf i).toNat)
      case atStart => exact ⟨0, by omega, rfl, HG2.out, HF.out⟩
      case round =>
        obtain ⟨k, hk, rfl, HI⟩ := hrel
        by_cases hlt : k < n2
        · obtain ⟨pb, po, rfl, hpb, hcs⟩ := (H2.out.stay HI.out.1).cells.resolve_left (by rw [HN.out.2]; omega)
          obtain ⟨k1, k2⟩ := hcs k (by rw [HN.out.2]; exact hlt)
          clear hcs
          have hd := drop_at l2 k (by rw [HN.out.2]; exact hlt)
          have hmem : l2.getD k z0 ∈ l2 := by rw [List.getD_eq_getElem?_getD, List.getElem?_eq_getElem (by rw [HN.out.2]; exact hlt)]; exact List.getElem_mem _
          have hok := HOK.out _ hmem
          obtain ⟨x, y, hxy⟩ : ∃ x y, l2.getD k z0 = (x, y) := ⟨_, _, rfl⟩
          rw [hxy] at k1 k2 hd hok
          simp only at k1 k2
          have hi : (k : Int) < (n2 : Int) := by omega
          have hfin : cvB l1 l2 = (decide (y ≤ up l1 x) && covB l1 (l2.drop (k + 1))) := by rw [HI.out.2, hd, covB]
          have hhb : hasB l1 (x, y) = decide (y ≤ up l1 x) := by rw [hasB, HX.out, hok]; rfl
          have hH := HH.out x y wr HI.out.1
          rw [hhb] at hH
          clear hd hmem hok hxy hhb
          cases hb : decide (y ≤ up l1 x) with
          | false =>
            rw [hb] at hH hfin
            have HFF := Lib.hid (show cvB l1 l2 = false from hfin)
            have HC := Lib.hid hH
            clear hH hfin hb
            go_wp2_with fail
            refine HC.out.mono ?_
            rintro e w3 ⟨rfl, hg⟩
            have HG3 := Lib.hid (gb_trans HI.out.1 hg); clear hg
            go_wp2
            exact HQ.out _ _ HFF.out HG3.out
          | true =>
            rw [hb, Bool.true_and] at hfin
            rw [hb] at hH
            have HFF := Lib.hid hfin
            have HC := Lib.hid hH
            clear hH hfin hb
            go_wp2_with fail
            refine HC.out.mono ?_
            rintro e w3 ⟨rfl, hg⟩
            have HG3 := Lib.hid (gb_trans HI.out.1 hg); clear hg
            go_wp2
            go_roundw
            case rel => exact ⟨k + 1, by omega, by go_num, HG3.out, HFF.out⟩
            case measure => simp [intOf]; omega
        · obtain rfl : k = n2 := by omega
          have HFF : Hid (cvB l1 l2 = true) := by
            have e := HI.out.2
            rw [drop_end l2 k (by rw [HN.out.2]; omega)] at e
            exact e
          go_wp2
          exact HQ.out _ _ HFF.out HI.out.1
end Ve
end Go.Proofs.YtkffbaihknhefaaGreat
