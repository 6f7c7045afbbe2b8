/- The law ShaRoots' walk. -/
import Derived.Test.YtjnednikgnapnaaDoorShaRootL
import Derived.Sort.CutIn
namespace Go.Proofs.YtjnednikgnapnaaDoor
open Go.RowKit Ow
namespace Fg
theorem run_convC {P : Program} {ρ : Operand → Value} {o : Oper} {w w' : World} {x : Operand} {t1 t2 : TypeId} {u v : Value} (ho : o.op = .convert t1 t2 x) (hx : ρ x = u) (hr : (convert t1 t2 u).run P w = .ok v w') : (execOp ρ o).run P w = .ok (.value v) w' := by
  unfold execOp
  simp only [ho, hx, Sem.run_bind, hr, Result.andThen_ok, Sem.run_pure]
theorem run_make {P : Program} {ρ : Operand → Value} {o : Oper} {w w' : World} {t : TypeId} {n c v : Value} (ho : o.op = .makeSlice t (.const n) (.const c)) {n' c' : Value} (hn : ρ (.const n) = n') (hc : ρ (.const c) = c') (hr : (Instr.makeSlice t n' c').run P w = .ok v w') : (execOp ρ o).run P w = .ok (.value v) w' := by
  unfold execOp
  simp only [ho, hn, hc, Sem.run_bind, hr, Result.andThen_ok, Sem.run_pure]
end Fg
set_option maxRecDepth 100000 in
set_option maxHeartbeats 4000000 in
theorem shaRoots_any (w : World) (hT : Tables w) :
    Calls Tryd.prog 3 #[] w fun e w' => e = .returned (.bool true) ∧ w.grownBy w' none := by
  have HT := Lib.hid hT; clear hT
  go_enter Tryd.func3, Tryd.ntmps3
  go_wp2_with fail
  refine (awake_any w HT.out).mono ?_
  rintro e w1 ⟨rfl, hg1⟩
  have H1 := Lib.hid hg1; clear hg1
  go_wp2_with fail
  refine (Sha.constants_any w1).mono ?_
  rintro e w2 ⟨g1, c1, g2, c2, rfl, hg2, hW1, hW2⟩
  have H2 := Lib.hid (And.intro (gb_trans H1.out hg2) (And.intro hW1 hW2)); clear hg2 hW1 hW2
  go_upto_region 4 with fail
  have FZ : ∀ it ∈ ([Fg.It.any, Fg.It.any, Fg.It.any, Fg.It.any, Fg.It.any, Fg.It.any, Fg.It.any, Fg.It.any, Fg.It.any, Fg.It.any, Fg.It.any, litI w2.heap.size [97, 98, 99], Fg.It.by [97, 98, 99], Fg.It.by (List.replicate 111 0), Fg.It.by (List.replicate 112 0), Fg.It.by (List.replicate 300 0)] : List Fg.It), Fz it := by
    intro it hit
    simp only [List.mem_cons, List.not_mem_nil, or_false] at hit
    rcases hit with rfl | rfl | rfl | rfl | rfl | rfl | rfl | rfl | rfl | rfl | rfl | rfl | rfl | rfl | rfl | rfl
    all_goals first | exact fz_any | exact fz_by _ | exact fz_lit _ _
  refine Fg.region_t [] [.any, .any, .any, .any, .any, .any, .any, .any, .any, .any, .any, litI w2.heap.size [97, 98, 99], Fg.It.by [97, 98, 99], Fg.It.by (List.replicate 111 0), Fg.It.by (List.replicate 112 0), Fg.It.by (List.replicate 300 0)] w2 5 (gb_refl _ _) (by kernel_rfl) (by kernel_rfl) (by kernel_rfl) (by kernel_rfl) (by decide) (by kernel_rfl) ?_ ?_
  · refine ⟨Fg.vT rfl (by decide) fun ac w h => ?_, ?_⟩
    · refine ⟨.slice (some ⟨w.heap.size, 0, none⟩) 3 3, (w.alloc (.cells #[.int .u8 97, .int .u8 98, .int .u8 99] 5)), wants_none rfl, ?_, gb_alloc (gb_refl _ _) _, ⟨w.heap.size, (0, 0), rfl, h.base.size, heap_alloc_new w _⟩⟩
      clear h
      go_simp
    refine ⟨⟨⟨_, rfl⟩, Fg.stepValue rfl fun ac w h => ?_⟩, ?_⟩
    · obtain ⟨N11, f11, e11, n11, b11⟩ : ∃ N f, ac.tmps.getD 11 undef = .slice (some ⟨N, 0, none⟩) [97, 98, 99].length [97, 98, 99].length ∧ w2.heap.size ≤ N ∧ w.heap[N]? = some (.cells ([97, 98, 99].map u8N).toArray 5 f) := h.dep 11 (by kernel_rfl)
      refine ⟨wants_none rfl, .slice (some ⟨N11, 0, none⟩) 3 3, w.freeze ⟨N11, 3, none⟩ 1, Fg.run_convC rfl e11 (conv_const w [97, 98, 99] f11 N11 3 3 b11), freeze_gb h.base n11 _, fun d u => fz_its FZ w N11 3 d u, fun s hs => (by cases hs), ⟨_, _, _, rfl, freeze_bytes (lit_bytes b11 (fun i => small_byte _ (by decide) i) (by decide)) _ _⟩⟩
    refine ⟨Fg.vT rfl (by decide) fun ac w h => ?_, ?_⟩
    · obtain ⟨wm, hr, hg, hb⟩ := made_at 111 (by decide) w
      refine ⟨.slice (some ⟨w.heap.size, 0, none⟩) 111 111, wm, wants_none rfl, ?_, hg, ⟨_, _, _, by rw [List.length_replicate], hb⟩⟩
      clear h
      exact Fg.run_make rfl rfl rfl hr
    refine ⟨Fg.vT rfl (by decide) fun ac w h => ?_, ?_⟩
    · obtain ⟨wm, hr, hg, hb⟩ := made_at 112 (by decide) w
      refine ⟨.slice (some ⟨w.heap.size, 0, none⟩) 112 112, wm, wants_none rfl, ?_, hg, ⟨_, _, _, by rw [List.length_replicate], hb⟩⟩
      clear h
      exact Fg.run_make rfl rfl rfl hr
    refine ⟨Fg.vT rfl (by decide) fun ac w h => ?_, ?_⟩
    · obtain ⟨wm, hr, hg, hb⟩ := made_at 300 (by decide) w
      refine ⟨.slice (some ⟨w.heap.size, 0, none⟩) 300 300, wm, wants_none rfl, ?_, hg, ⟨_, _, _, by rw [List.length_replicate], hb⟩⟩
      clear h
      exact Fg.run_make rfl rfl rfl hr
    trivial
  · intro aq wq hB hsz hdf hrest hslots hpt
    obtain ⟨u11, e11⟩ : ∃ u, aq.tmps.getD 11 undef = u := ⟨_, rfl⟩
    obtain ⟨a12, k12, B12, e12, b12⟩ : ∃ xa xc xB, aq.tmps.getD 12 undef = .slice xa [97, 98, 99].length xc ∧ BytesAt wq xB xa xc [97, 98, 99] := hslots 12 (by kernel_rfl)
    obtain ⟨a13, k13, B13, e13, b13⟩ : ∃ xa xc xB, aq.tmps.getD 13 undef = .slice xa (List.replicate 111 0).length xc ∧ BytesAt wq xB xa xc (List.replicate 111 0) := hslots 13 (by kernel_rfl)
    obtain ⟨a14, k14, B14, e14, b14⟩ : ∃ xa xc xB, aq.tmps.getD 14 undef = .slice xa (List.replicate 112 0).length xc ∧ BytesAt wq xB xa xc (List.replicate 112 0) := hslots 14 (by kernel_rfl)
    obtain ⟨a15, k15, B15, e15, b15⟩ : ∃ xa xc xB, aq.tmps.getD 15 undef = .slice xa (List.replicate 300 0).length xc ∧ BytesAt wq xB xa xc (List.replicate 300 0) := hslots 15 (by kernel_rfl)
    obtain rfl := Fg.frame_is (a := aq) (vs := [Value.bool false, Value.slice (some ⟨g1, 0, none⟩) 8 c1, Value.slice (some ⟨g2, 0, none⟩) 80 c2, undef, undef, Value.bool true, Value.bool false, Value.tuple #[Value.slice (some ⟨g1, 0, none⟩) 8 c1, Value.slice (some ⟨g2, 0, none⟩) 80 c2], Value.tuple #[Value.slice (some ⟨g1, 0, none⟩) 8 c1, Value.slice (some ⟨g2, 0, none⟩) 80 c2], Value.slice (some ⟨g1, 0, none⟩) 8 c1, Value.slice (some ⟨g2, 0, none⟩) 80 c2, u11, Value.slice a12 [97, 98, 99].length k12, Value.slice a13 (List.replicate 111 0).length k13, Value.slice a14 (List.replicate 112 0).length k14, Value.slice a15 (List.replicate 300 0).length k15, undef, undef, undef, undef, undef, undef, undef, undef, undef, undef, undef, undef, undef, undef, undef, undef, undef, undef, undef, undef, undef, undef]) hsz ⟨hrest 0 (by kernel_rfl), hrest 1 (by kernel_rfl), hrest 2 (by kernel_rfl), hrest 3 (by kernel_rfl), hrest 4 (by kernel_rfl), hrest 5 (by kernel_rfl), hrest 6 (by kernel_rfl), hrest 7 (by kernel_rfl), hrest 8 (by kernel_rfl), hrest 9 (by kernel_rfl), hrest 10 (by kernel_rfl), e11, e12, e13, e14, e15, hrest 16 (by kernel_rfl), hrest 17 (by kernel_rfl), hrest 18 (by kernel_rfl), hrest 19 (by kernel_rfl), hrest 20 (by kernel_rfl), hrest 21 (by kernel_rfl), hrest 22 (by kernel_rfl), hrest 23 (by kernel_rfl), hrest 24 (by kernel_rfl), hrest 25 (by kernel_rfl), hrest 26 (by kernel_rfl), hrest 27 (by kernel_rfl), hrest 28 (by kernel_rfl), hrest 29 (by kernel_rfl), hrest 30 (by kernel_rfl), hrest 31 (by kernel_rfl), hrest 32 (by kernel_rfl), hrest 33 (by kernel_rfl), hrest 34 (by kernel_rfl), hrest 35 (by kernel_rfl), hrest 36 (by kernel_rfl), hrest 37 (by kernel_rfl), trivial⟩ hdf
    clear hsz hdf hrest hslots hpt e11 e12 e13 e14 e15
    have hbox := rows_box (w := wq) 26 [(none, 0, []), (a12, k12, [97, 98, 99]), (a13, k13, List.replicate 111 0), (a14, k14, List.replicate 112 0), (a15, k15, List.replicate 300 0)] (fun p hp => by
      simp only [List.mem_cons, List.not_mem_nil, or_false] at hp
      rcases hp with rfl | rfl | rfl | rfl | rfl
      · exact ⟨_, none_bytes wq⟩
      · exact ⟨_, b12⟩
      · exact ⟨_, b13⟩
      · exact ⟨_, b14⟩
      · exact ⟨_, b15⟩)
    refine Fg.wpl_value (v := .slice (some ⟨wq.heap.size, 0, none⟩) 5 5) (w' := wq.alloc (.cells #[.slice none 0 0, .slice a12 3 k12, .slice a13 111 k13, .slice a14 112 k14, .slice a15 300 k15] 26)) rfl (by clear hbox; go_simp) ?_
    refine Fg.wpl_value (v := .slice (some ⟨wq.heap.size, 0, none⟩) 5 5) (w' := wq.alloc (.cells #[.slice none 0 0, .slice a12 3 k12, .slice a13 111 k13, .slice a14 112 k14, .slice a15 300 k15] 26)) rfl (Fg.run_assign rfl rfl) ?_
    refine wpList_nil ?_
    simp only [Act.put, List.setIfInBounds_toArray, List.set_cons_succ, List.set_cons_zero]
    have hR : RowsAt (wq.alloc (.cells #[.slice none 0 0, .slice a12 3 k12, .slice a13 111 k13, .slice a14 112 k14, .slice a15 300 k15] 26)) (wq.heap.size + 1) (some ⟨wq.heap.size, 0, none⟩) TL := hbox
    have g4 := gb_alloc (gb_trans H2.out.1 hB) (.cells #[.slice none 0 0, .slice a12 3 k12, .slice a13 111 k13, .slice a14 112 k14, .slice a15 300 k15] 26)
    have hW := And.intro (H2.out.2.1.kept (gb_alloc hB (.cells #[.slice none 0 0, .slice a12 3 k12, .slice a13 111 k13, .slice a14 112 k14, .slice a15 300 k15] 26))) (H2.out.2.2.kept (gb_alloc hB (.cells #[.slice none 0 0, .slice a12 3 k12, .slice a13 111 k13, .slice a14 112 k14, .slice a15 300 k15] 26)))
    clear hbox hB b12 b13 b14 b15
    obtain ⟨tb, htb⟩ : ∃ tb, tb = wq.heap.size := ⟨_, rfl⟩
    rw [← htb] at hR ⊢
    clear htb
    revert hW; revert g4; revert hR
    generalize wq.alloc (.cells #[.slice none 0 0, .slice a12 3 k12, .slice a13 111 k13, .slice a14 112 k14, .slice a15 300 k15] 26) = w4
    intro hR g4 hW
    have H4 := Lib.hid (And.intro g4 (And.intro hR hW)); clear g4 hR hW
    go_wp2_with fail
    go_loopw [4] (fun i wr => ∃ k : Nat, k ≤ 5 ∧ i = .int .i64 k ∧ w4.grownBy wr none) (fun i _ => 5 - (intOf i).toNat)
    case atStart => exact ⟨0, by omega, rfl, gb_refl _ _⟩
    case round =>
      obtain ⟨k, hk, rfl, hg⟩ := hrel
      by_cases hlt : k < 5
      · have i0 : (k : Int) < 5 := by omega
        obtain ⟨pb, po, ai, ci, e, _, hcell, hB⟩ := (H4.out.2.1.stay hg).at (i := k) hlt
        cases e
        rw [Nat.zero_add] at hcell
        have hl := TL_len k
        generalize TL.getD k [] = l at hcell hB hl
        have HI := Lib.hid (And.intro (gb_trans H4.out.1 hg) (And.intro (And.intro (H4.out.2.2.1.kept hg) (H4.out.2.2.2.kept hg)) (And.intro hcell hB))); have HG := Lib.hid hg; clear hg hcell hB
        go_upto_region 8 with fail
        refine Fg.region_t [] [.any, .any, .any, .any, .any, .any, .any, .any, .any, .any, .any, .any, .any, .any, .any, .any, .any, .any, .any, .any, .any, .any, .any, .val (Value.slice (some ⟨tb, 0, none⟩) 5 5), .val (Value.int .i64 (k : Int)), .val (Value.pointer (some ⟨tb, k, none⟩)), .val (Value.slice ai l.length ci), boxI l, Fg.It.by (Sha.sum l), .val (Value.slice (some ⟨g1, 0, none⟩) 8 c1), .val (Value.slice (some ⟨g2, 0, none⟩) 80 c2), .val (Value.slice (some ⟨tb, 0, none⟩) 5 5), .val (Value.int .i64 (k : Int)), .val (Value.pointer (some ⟨tb, k, none⟩)), .val (Value.slice ai l.length ci), Fg.It.by (Sha.sum l)] wr 13 (gb_refl _ _) (by kernel_rfl) (by kernel_rfl) (by kernel_rfl) (by kernel_rfl) (by decide) (by kernel_rfl) ?_ ?_
        · refine ⟨Fg.vT rfl (by decide) fun ac w h => ?_, ?_⟩
          · have e3 : ac.tmps.getD 3 undef = Value.slice (some ⟨tb, 0, none⟩) 5 5 := h.rest 3 (by kernel_rfl)
            exact ⟨_, w, wants_none rfl, Fg.run_move rfl e3, gb_refl _ _, rfl⟩
          refine ⟨Fg.vT rfl (by decide) fun ac w h => ?_, ?_⟩
          · have e4 : ac.tmps.getD 4 undef = Value.int .i64 (k : Int) := h.rest 4 (by kernel_rfl)
            exact ⟨_, w, wants_none rfl, Fg.run_move rfl e4, gb_refl _ _, rfl⟩
          refine ⟨Fg.vT rfl (by decide) fun ac w h => ?_, ?_⟩
          · have e23 : ac.tmps.getD 23 undef = Value.slice (some ⟨tb, 0, none⟩) 5 5 := h.dep 23 (by kernel_rfl)
            have e24 : ac.tmps.getD 24 undef = Value.int .i64 (k : Int) := h.dep 24 (by kernel_rfl)
            have i0 : (k : Int) < 5 := i0
            refine ⟨.pointer (some ⟨tb, k, none⟩), w, wants_none rfl, ?_, gb_refl _ _, rfl⟩
            clear h
            simp only [execOp, Act.eval, e23, e24]
            go_simp
          refine ⟨Fg.vT rfl (by decide) fun ac w h => ?_, ?_⟩
          · have e25 : ac.tmps.getD 25 undef = Value.pointer (some ⟨tb, k, none⟩) := h.dep 25 (by kernel_rfl)
            have y0 : w.cell? ⟨tb, k, none⟩ = some (.slice ai l.length ci) := by rw [gb_cell h.base (block_lt_of_cell (HI.out.2.2.1)) (by simp)]; exact HI.out.2.2.1
            refine ⟨.slice ai l.length ci, w, wants_none rfl, ?_, gb_refl _ _, rfl⟩
            clear h
            simp only [execOp, Act.eval, e25]
            go_simp
          refine ⟨Fg.vT rfl (by decide) fun ac w h => ?_, ?_⟩
          · have e26 : ac.tmps.getD 26 undef = Value.slice ai l.length ci := h.dep 26 (by kernel_rfl)
            refine ⟨.slice (some ⟨w.heap.size, 0, none⟩) 1 1, (w.alloc (.cells #[.slice ai l.length ci] 26)), wants_none rfl, ?_, gb_alloc (gb_refl _ _) _, box_new (HI.out.2.2.2.stay h.base)⟩
            clear h
            simp only [execOp, Act.eval, e26, List.map_toArray, List.map_cons, List.map_nil]
            go_simp
          refine ⟨Fg.cT rfl (by decide) fun ac w h => ?_, ?_⟩
          · obtain ⟨N27, e27, b27⟩ : ∃ N, ac.tmps.getD 27 undef = .slice (some ⟨N, 0, none⟩) 1 1 ∧ RowsAt w (N + 1) (some ⟨N, 0, none⟩) [l] := h.dep 27 (by kernel_rfl)
            refine ⟨7, #[Value.slice (some ⟨N27, 0, none⟩) 1 1], wants_none rfl, Fg.run_call rfl rfl (by simp only [List.map_toArray, List.map_cons, List.map_nil, Act.eval, e27]) (Fg.run_enter Tryd.func7 (by kernel_rfl) (by kernel_rfl)), ?_⟩
            exact (sum_row l _ 1 (N27 + 1) wr w (HT.out.kept HI.out.1 (by simp)) h.base b27 (by omega) (by decide) (by decide)).mono fun _ _ ⟨_, _, he, hg, hb⟩ => ⟨_, he, hg, _, _, _, rfl, hb⟩
          refine ⟨Fg.vT rfl (by decide) fun ac w h => ?_, ?_⟩
          · have e1 : ac.tmps.getD 1 undef = Value.slice (some ⟨g1, 0, none⟩) 8 c1 := h.rest 1 (by kernel_rfl)
            exact ⟨_, w, wants_none rfl, Fg.run_move rfl e1, gb_refl _ _, rfl⟩
          refine ⟨Fg.vT rfl (by decide) fun ac w h => ?_, ?_⟩
          · have e2 : ac.tmps.getD 2 undef = Value.slice (some ⟨g2, 0, none⟩) 80 c2 := h.rest 2 (by kernel_rfl)
            exact ⟨_, w, wants_none rfl, Fg.run_move rfl e2, gb_refl _ _, rfl⟩
          refine ⟨Fg.vT rfl (by decide) fun ac w h => ?_, ?_⟩
          · have e3 : ac.tmps.getD 3 undef = Value.slice (some ⟨tb, 0, none⟩) 5 5 := h.rest 3 (by kernel_rfl)
            exact ⟨_, w, wants_none rfl, Fg.run_move rfl e3, gb_refl _ _, rfl⟩
          refine ⟨Fg.vT rfl (by decide) fun ac w h => ?_, ?_⟩
          · have e4 : ac.tmps.getD 4 undef = Value.int .i64 (k : Int) := h.rest 4 (by kernel_rfl)
            exact ⟨_, w, wants_none rfl, Fg.run_move rfl e4, gb_refl _ _, rfl⟩
          refine ⟨Fg.vT rfl (by decide) fun ac w h => ?_, ?_⟩
          · have e31 : ac.tmps.getD 31 undef = Value.slice (some ⟨tb, 0, none⟩) 5 5 := h.dep 31 (by kernel_rfl)
            have e32 : ac.tmps.getD 32 undef = Value.int .i64 (k : Int) := h.dep 32 (by kernel_rfl)
            have i0 : (k : Int) < 5 := i0
            refine ⟨.pointer (some ⟨tb, k, none⟩), w, wants_none rfl, ?_, gb_refl _ _, rfl⟩
            clear h
            simp only [execOp, Act.eval, e31, e32]
            go_simp
          refine ⟨Fg.vT rfl (by decide) fun ac w h => ?_, ?_⟩
          · have e33 : ac.tmps.getD 33 undef = Value.pointer (some ⟨tb, k, none⟩) := h.dep 33 (by kernel_rfl)
            have y0 : w.cell? ⟨tb, k, none⟩ = some (.slice ai l.length ci) := by rw [gb_cell h.base (block_lt_of_cell (HI.out.2.2.1)) (by simp)]; exact HI.out.2.2.1
            refine ⟨.slice ai l.length ci, w, wants_none rfl, ?_, gb_refl _ _, rfl⟩
            clear h
            simp only [execOp, Act.eval, e33]
            go_simp
          refine ⟨Fg.cT rfl (by decide) fun ac w h => ?_, ?_⟩
          · have e29 : ac.tmps.getD 29 undef = Value.slice (some ⟨g1, 0, none⟩) 8 c1 := h.dep 29 (by kernel_rfl)
            have e30 : ac.tmps.getD 30 undef = Value.slice (some ⟨g2, 0, none⟩) 80 c2 := h.dep 30 (by kernel_rfl)
            have e34 : ac.tmps.getD 34 undef = Value.slice ai l.length ci := h.dep 34 (by kernel_rfl)
            refine ⟨8, #[Value.slice (some ⟨g1, 0, none⟩) 8 c1, Value.slice (some ⟨g2, 0, none⟩) 80 c2, Value.slice ai l.length ci], wants_none rfl, Fg.run_call rfl rfl (by simp only [List.map_toArray, List.map_cons, List.map_nil, Act.eval, e29, e30, e34]) (Fg.run_enter Tryd.func8 (by kernel_rfl) (by kernel_rfl)), ?_⟩
            exact (sumBy_row l ai ci _ g1 c1 g2 c2 wr w HI.out.2.1.1 HI.out.2.1.2 h.base (HI.out.2.2.2.stay h.base) (by omega)).mono fun _ _ ⟨_, _, he, hg, hb⟩ => ⟨_, he, hg, _, _, _, rfl, hb⟩
          trivial
        · intro aq wq hB hsz hdf hrest hslots hpt
          obtain ⟨u23, e23⟩ : ∃ u, aq.tmps.getD 23 undef = u := ⟨_, rfl⟩
          obtain ⟨u24, e24⟩ : ∃ u, aq.tmps.getD 24 undef = u := ⟨_, rfl⟩
          obtain ⟨u25, e25⟩ : ∃ u, aq.tmps.getD 25 undef = u := ⟨_, rfl⟩
          obtain ⟨u26, e26⟩ : ∃ u, aq.tmps.getD 26 undef = u := ⟨_, rfl⟩
          obtain ⟨u27, e27⟩ : ∃ u, aq.tmps.getD 27 undef = u := ⟨_, rfl⟩
          obtain ⟨a28, k28, B28, e28, b28⟩ : ∃ xa xc xB, aq.tmps.getD 28 undef = .slice xa (Sha.sum l).length xc ∧ BytesAt wq xB xa xc (Sha.sum l) := hslots 28 (by kernel_rfl)
          obtain ⟨u29, e29⟩ : ∃ u, aq.tmps.getD 29 undef = u := ⟨_, rfl⟩
          obtain ⟨u30, e30⟩ : ∃ u, aq.tmps.getD 30 undef = u := ⟨_, rfl⟩
          obtain ⟨u31, e31⟩ : ∃ u, aq.tmps.getD 31 undef = u := ⟨_, rfl⟩
          obtain ⟨u32, e32⟩ : ∃ u, aq.tmps.getD 32 undef = u := ⟨_, rfl⟩
          obtain ⟨u33, e33⟩ : ∃ u, aq.tmps.getD 33 undef = u := ⟨_, rfl⟩
          obtain ⟨u34, e34⟩ : ∃ u, aq.tmps.getD 34 undef = u := ⟨_, rfl⟩
          obtain ⟨a35, k35, B35, e35, b35⟩ : ∃ xa xc xB, aq.tmps.getD 35 undef = .slice xa (Sha.sum l).length xc ∧ BytesAt wq xB xa xc (Sha.sum l) := hslots 35 (by kernel_rfl)
          obtain rfl := Fg.frame_is (a := aq) (vs := [u0, Value.slice (some ⟨g1, 0, none⟩) 8 c1, Value.slice (some ⟨g2, 0, none⟩) 80 c2, Value.slice (some ⟨tb, 0, none⟩) 5 5, Value.int .i64 (k : Int), Value.bool true, Value.bool false, Value.tuple #[Value.slice (some ⟨g1, 0, none⟩) 8 c1, Value.slice (some ⟨g2, 0, none⟩) 80 c2], Value.tuple #[Value.slice (some ⟨g1, 0, none⟩) 8 c1, Value.slice (some ⟨g2, 0, none⟩) 80 c2], Value.slice (some ⟨g1, 0, none⟩) 8 c1, Value.slice (some ⟨g2, 0, none⟩) 80 c2, u11, Value.slice a12 [97, 98, 99].length k12, Value.slice a13 (List.replicate 111 0).length k13, Value.slice a14 (List.replicate 112 0).length k14, Value.slice a15 (List.replicate 300 0).length k15, Value.slice (some ⟨tb, 0, none⟩) 5 5, Value.int .i64 (k : Int), Value.slice (some ⟨tb, 0, none⟩) 5 5, Value.int .i64 5, Value.bool true, u21, u22, u23, u24, u25, u26, u27, Value.slice a28 (Sha.sum l).length k28, u29, u30, u31, u32, u33, u34, Value.slice a35 (Sha.sum l).length k35, u36, u37]) hsz ⟨hrest 0 (by kernel_rfl), hrest 1 (by kernel_rfl), hrest 2 (by kernel_rfl), hrest 3 (by kernel_rfl), hrest 4 (by kernel_rfl), hrest 5 (by kernel_rfl), hrest 6 (by kernel_rfl), hrest 7 (by kernel_rfl), hrest 8 (by kernel_rfl), hrest 9 (by kernel_rfl), hrest 10 (by kernel_rfl), hrest 11 (by kernel_rfl), hrest 12 (by kernel_rfl), hrest 13 (by kernel_rfl), hrest 14 (by kernel_rfl), hrest 15 (by kernel_rfl), hrest 16 (by kernel_rfl), hrest 17 (by kernel_rfl), hrest 18 (by kernel_rfl), hrest 19 (by kernel_rfl), hrest 20 (by kernel_rfl), hrest 21 (by kernel_rfl), hrest 22 (by kernel_rfl), e23, e24, e25, e26, e27, e28, e29, e30, e31, e32, e33, e34, e35, hrest 36 (by kernel_rfl), hrest 37 (by kernel_rfl), trivial⟩ hdf
          clear hsz hdf hrest hslots hpt e23 e24 e25 e26 e27 e28 e29 e30 e31 e32 e33 e34 e35
          refine Fg.wpl_call rfl (Fg.run_call (vs := #[.slice a28 (Sha.sum l).length k28, .slice a35 (Sha.sum l).length k35]) rfl rfl (by simp only [List.map_toArray, List.map_cons, List.map_nil, Act.eval]; rfl) (Fg.run_enter Tryd.func6 (by kernel_rfl) (by kernel_rfl))) ?_
          refine (same_row (Sha.sum l) a28 a35 k28 k35 _ _ wq b28 b35).mono ?_
          rintro e w6 ⟨rfl, nq, rfl⟩
          refine ⟨_, rfl, ?_⟩
          simp only [Act.put, List.setIfInBounds_toArray, List.set_cons_succ, List.set_cons_zero]
          refine Fg.wpl_value (v := .bool false) (w' := wq.drewN nq) rfl (by go_simp) ?_
          refine wpList_nil ?_
          simp only [Act.put, List.setIfInBounds_toArray, List.set_cons_succ, List.set_cons_zero]
          have HF := Lib.hid (gb_drewN (gb_trans HG.out hB) nq); clear hB b28 b35
          go_wp2
          exact ⟨⟨k + 1, by omega, by go_num, HF.out⟩, by simp [intOf]; omega⟩
      · obtain rfl : k = 5 := by omega
        have HF := Lib.hid (gb_trans H4.out.1 hg); clear hg
        go_wp2
        go_ret
        exact ⟨rfl, HF.out⟩
end Go.Proofs.YtjnednikgnapnaaDoor
