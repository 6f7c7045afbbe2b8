/- VectorNumbers (P7.1, P7.2): the walk. (Its region printed by gen_nums.py.) -/
import Derived.Test.YtkffbaihknhefaaGreatVeNumsM
namespace Go.Proofs.YtkffbaihknhefaaGreat
open Go.RowKit Ve
namespace Ve
set_option maxHeartbeats 4000000 in
set_option maxRecDepth 100000 in
theorem nums_any (w : World) : Calls Tryz.prog 3 #[] w (LawOut w) := by
  obtain ⟨Q, hQ⟩ : ∃ Q, Q = LawOut w := ⟨_, rfl⟩
  rw [← hQ]
  have HQ : Hid (∀ w', w.grownBy w' none → Q (.returned (.bool true)) w') := fun w' hg => by rw [hQ]; exact ⟨rfl, hg⟩
  clear hQ
  go_enter Tryz.func3, Tryz.ntmps3
  go_wp2_with fail
  refine (awake7_any w).mono ?_
  rintro e w1 ⟨rfl, hg⟩
  have HG1 := Lib.hid hg; clear hg
  obtain ⟨b0, hb0⟩ : ∃ b, b = w1.heap.size := ⟨_, rfl⟩
  go_wp2_with fail
  rw [← hb0]
  go_loopw [3] (fun i wr => ∃ (p : Nat), p ≤ 9 ∧ i = .int .i64 p ∧ Hid (w.grownBy wr none ∧ IC wr b0 ∧ IC wr (b0 + 1))) (fun i _ => 9 - (intOf i).toNat)
  case atStart =>
    refine ⟨0, by omega, rfl, gb_trans HG1.out (gb_alloc (gb_alloc (gb_refl _ _) _) _), ?_, ?_⟩
    · rw [hb0]; exact (ic_new w1 _ [-9223372036854775808, -1, 0, 1, 2, 7, 8, 9, 9223372036854775807] rfl _ rfl).stay (gb_alloc (gb_refl _ _) _)
    · have := ic_new (w1.alloc (.cells (([-9223372036854775808, -1, 0, 1, 2, 7, 8, 9, 9223372036854775807] : List Int).map iV).toArray 3)) 3 [-9223372036854775808, -1, 0, 1, 2, 1073741823, 1073741824, 1073741825, 9223372036854775807] rfl _ rfl
      rw [World.size_alloc, ← hb0] at this
      exact this
  case round =>
    clear hb0 HG1
    obtain ⟨p, hp, rfl, HP⟩ := hrel
    by_cases hp9 : p < 9
    · have ip : (p : Int) < 9 := by omega
      go_wp2_with fail
      obtain ⟨WO, hWO⟩ : ∃ WO : World, WO = wr := ⟨_, rfl⟩
      subst hWO
      go_loopw [4] (fun i wr => ∃ (q : Nat), q ≤ 9 ∧ i = .int .i64 q ∧ Hid (WO.grownBy wr none)) (fun i _ => 9 - (intOf i).toNat)
      case atStart => exact ⟨0, by omega, rfl, gb_refl _ _⟩
      case round =>
        obtain ⟨q, hq, rfl, HK⟩ := hrel
        by_cases hq9 : q < 9
        · have iq : (q : Int) < 9 := by omega
          obtain ⟨x, c1⟩ := (HP.out.2.1.stay HK.out).2 p hp9
          obtain ⟨y, c2⟩ := (HP.out.2.2.stay HK.out).2 q hq9
          have hbl := And.intro (HP.out.2.1.stay HK.out).1 (HP.out.2.2.stay HK.out).1
          obtain ⟨db, hdb⟩ : ∃ b, b = wr.heap.size := ⟨_, rfl⟩
          have k1 : wr.drew.cell? ⟨b0, p, none⟩ = some (iV x) := c1
          have k2 : wr.drew.cell? ⟨b0 + 1, q, none⟩ = some (iV y) := c2
          have hn1 : b0 ≠ wr.heap.size := by omega
          have hn2 : b0 + 1 ≠ wr.heap.size := by omega
          go_wp2_with fail
          go_region
          obtain ⟨Wd, hWd⟩ : ∃ W : World, W = (wr.alloc (.cells #[.int .i64 x, .int .i64 y] 25)).drew := ⟨_, rfl⟩
          have hgd : wr.grownBy Wd none := by rw [hWd]; exact gb_drew (gb_alloc (gb_refl _ _) _)
          have hdd : Wd.cell? ⟨db, 0, none⟩ = some (iV x) ∧ Wd.cell? ⟨db, 1, none⟩ = some (iV y) ∧ db < Wd.heap.size := by
            rw [hWd, hdb]
            have hB : Blk (wr.alloc (.cells #[.int .i64 x, .int .i64 y] 25)) wr.heap.size 25 [.int .i64 x, .int .i64 y] := Blk.new wr _ _
            exact ⟨hB.cell (i := 0) rfl, hB.cell (i := 1) rfl, hB.lt⟩
          rw [← hWd, ← hdb]
          clear hWd k1 k2 c1 c2 hn1 hn2 hdb hbl
          have HD : Hid (∀ {w' : World}, Wd.grownBy w' none → w'.cell? ⟨db, 0, none⟩ = some (iV x) ∧ w'.cell? ⟨db, 1, none⟩ = some (iV y)) := fun {w'} hg => ⟨by rw [gb_cell hg (p := ⟨db, 0, none⟩) hdd.2.2 (by simp)]; exact hdd.1, by rw [gb_cell hg (p := ⟨db, 1, none⟩) hdd.2.2 (by simp)]; exact hdd.2.1⟩
          have g2 := gb_alloc (gb_alloc (gb_refl Wd none) (.cells #[iV x, iV y] 25)) (.cells #[iV 2, iV 2] 25)
          have g3 := gb_alloc g2 (.cells #[iV x, iV y, iV 2, iV 2] 25)
          have g4 := gb_alloc g3 (.cells #[iV 2, iV 2, iV x, iV y] 25)
          have m0 := HD.out (gb_refl Wd none)
          have m2 := HD.out g2
          have m3 := HD.out g3
          have m4 := HD.out g4
          obtain ⟨n0, n0'⟩ := m0
          obtain ⟨n2, n2'⟩ := m2
          obtain ⟨n3, n3'⟩ := m3
          obtain ⟨n4, n4'⟩ := m4
          have HGD := Lib.hid (gb_trans HK.out hgd)
          clear g2 g3 g4 hdd hgd
          obtain ⟨rb, hrb⟩ : ∃ b, b = Wd.heap.size + 1 + 1 + 1 + 1 + 1 := ⟨_, rfl⟩
          obtain ⟨WM, hWM⟩ : ∃ W : World, W = wr := ⟨_, rfl⟩
          subst hWM
          go_wp2_with fail
          clear n0 n0' n2 n2' n3 n3' n4 n4'
          rw [← hrb]
          go_loopw [7] (fun i wr => ∃ (n : Nat), n ≤ 6 ∧ i = .int .i64 n ∧ Hid (WO.grownBy wr none ∧ RK wr rb (x, y) ∧ (wr.cell? ⟨db, 0, none⟩ = some (iV x) ∧ wr.cell? ⟨db, 1, none⟩ = some (iV y)) ∧ db < wr.heap.size)) (fun i _ => 6 - (intOf i).toNat)
          case atStart =>
            have hg : Wd.grownBy _ none := gb_alloc (gb_alloc (gb_alloc (gb_alloc (gb_alloc (gb_alloc (gb_refl Wd none) (.cells #[iV x, iV y] 25)) (.cells #[iV 2, iV 2] 25)) (.cells #[iV x, iV y, iV 2, iV 2] 25)) (.cells #[iV 2, iV 2, iV x, iV y] 25)) (.cells #[iV x, iV y, iV x, iV y] 25)) (.cells #[.slice none 0 0, .slice (some ⟨Wd.heap.size, 0, none⟩) 1 1, .slice (some ⟨Wd.heap.size + 1, 0, none⟩) 1 1, .slice (some ⟨Wd.heap.size + 1 + 1, 0, none⟩) 2 2, .slice (some ⟨Wd.heap.size + 1 + 1 + 1, 0, none⟩) 2 2, .slice (some ⟨Wd.heap.size + 1 + 1 + 1 + 1, 0, none⟩) 2 2] 26)
            exact ⟨0, by omega, rfl, gb_trans HGD.out hg, by rw [hrb]; exact rk_new Wd x y _ _, HD.out hg, Nat.lt_of_lt_of_le (block_lt_of_cell (HD.out (gb_refl Wd none)).1) hg.size⟩
          case round =>
            clear hrb
            obtain ⟨n, hn, rfl, HI⟩ := hrel
            by_cases hn6 : n < 6
            · have i6 : (n : Int) < 6 := by omega
              obtain ⟨an, cn, hr1, hr2, hr3⟩ := HI.out.2.1.row n hn6
              obtain ⟨b1, ho1, ho2⟩ := HI.out.2.1.one
              have hrows := Lib.hid (fun (W : World) (hg : wr.grownBy W none) => (HI.out.2.1.stay hg).rows n)
              have hll := rr_len (x, y) n
              have HC : Hid (∀ {w' : World}, wr.grownBy w' none → w'.cell? ⟨rb, n, none⟩ = some (.slice an ((RR (x, y)).getD n []).length cn) ∧ w'.cell? ⟨rb, 1, none⟩ = some (.slice (some ⟨b1, 0, none⟩) 1 1) ∧ w'.cell? ⟨db, 0, none⟩ = some (iV x) ∧ w'.cell? ⟨db, 1, none⟩ = some (iV y)) := fun {w'} hg =>
                ⟨by rw [gb_cell hg (p := ⟨rb, n, none⟩) HI.out.2.1.lt (by simp)]; exact hr1, by rw [gb_cell hg (p := ⟨rb, 1, none⟩) HI.out.2.1.lt (by simp)]; exact ho1, by rw [gb_cell hg (p := ⟨db, 0, none⟩) HI.out.2.2.2 (by simp)]; exact HI.out.2.2.1.1, by rw [gb_cell hg (p := ⟨db, 1, none⟩) HI.out.2.2.2 (by simp)]; exact HI.out.2.2.1.2⟩
              clear hr1 ho1
              generalize (RR (x, y)).getD n [] = l at *
              have HT1 := Lib.hid (fun (W : World) (hg : wr.grownBy W none) => tells_any cn 1 an (some ⟨b1, 0, none⟩) l [(x, y)] x y W ⟨gb_refl _ _, fun f hf => by
                simp only [List.mem_cons, List.not_mem_nil, or_false] at hf
                rcases hf with rfl | rfl
                · exact ⟨(hr3.stay hg).full, by show l.length < _; omega⟩
                · exact ⟨(ho2.stay hg).full, by show 1 < _; decide⟩⟩ hr2 (fun e => by cases e))
              have HT2 := Lib.hid (fun (W : World) (hg : wr.grownBy W none) => tells_any 1 cn (some ⟨b1, 0, none⟩) an [(x, y)] l 2 2 W ⟨gb_refl _ _, fun f hf => by
                simp only [List.mem_cons, List.not_mem_nil, or_false] at hf
                rcases hf with rfl | rfl
                · exact ⟨(ho2.stay hg).full, by show 1 < _; decide⟩
                · exact ⟨(hr3.stay hg).full, by show l.length < _; omega⟩⟩ (fun e => by cases e) hr2)
              have HJ3 := Lib.hid (fun (W : World) (hg : wr.grownBy W none) (g : Nat) (hd : DotsAt W W.heap.size (some ⟨g, 0, none⟩) [(x, y), (8, 1)]) => joins_any (6 - n) (6 - n) cn 2 (some ⟨rb, n, none⟩) an (some ⟨g, 0, none⟩) ((RR (x, y)).drop n) l [(x, y), (8, 1)] W (by simp [RR]) (by omega) (hrows.out W hg).1 (hrows.out W hg).2.1 (hrows.out W hg).2.2 ⟨gb_refl _ _, fun f hf => by
                simp only [List.mem_cons, List.not_mem_nil, or_false] at hf
                rcases hf with rfl | rfl
                · exact ⟨(hr3.stay hg).full, by show l.length < _; omega⟩
                · exact ⟨hd, by show 2 < _; decide⟩⟩ hr2 (fun e => by cases e))
              have HSL := Lib.hid (fun w => rows_from rb n hn6 w)
              clear hr2 hr3 ho2 hll hrows
              generalize l.length = m at *
              go_wp2_with fail
              refine wp_region_flow3 (Fg.its [.any, .any, .any, .any, .any, .any, .any, .any, .any, .any, .any, .any, .any, .any, .any, .any, .any, .any, .any, .any, .any, .any, .any, .any, .any, .any, .any, .any, .any, .any, .any, .any, .any, .any, .any, .any, .any, .any, .any, .any, .any, .any, .any, .any, .any, .any, .any, .any, .any, .any, .any, .any, .any, .val (.slice (some ⟨rb, 0, none⟩) 6 6), .val (.int .i64 (n : Int)), .val (.pointer (some ⟨rb, n, none⟩)), .val (.slice an m cn), .val (.slice (some ⟨rb, 0, none⟩) 6 6), .val (.pointer (some ⟨rb, 1, none⟩)), .val (.slice (some ⟨b1, 0, none⟩) 1 1), .val (.agg #[iV x, iV y]), .val (.bool true), .val (.bool false), .val (.bool false), .val (.slice (some ⟨rb, 0, none⟩) 6 6), .val (.pointer (some ⟨rb, 1, none⟩)), .val (.slice (some ⟨b1, 0, none⟩) 1 1), .val (.slice (some ⟨rb, 0, none⟩) 6 6), .val (.int .i64 (n : Int)), .val (.pointer (some ⟨rb, n, none⟩)), .val (.slice an m cn), .val (.agg #[.int .i64 2, .int .i64 2]), .val (.bool true), .val (.bool false), .val (.bool false), .val (.bool false), .val (.slice (some ⟨rb, 0, none⟩) 6 6), .val (.int .i64 (n : Int)), .val (.slice (some ⟨rb, n, none⟩) (6 - n) (6 - n)), .val (.slice (some ⟨rb, 0, none⟩) 6 6), .val (.int .i64 (n : Int)), .val (.pointer (some ⟨rb, n, none⟩)), .val (.slice an m cn), .val (.agg #[iV x, iV y]), .val (.agg #[.int .i64 8, .int .i64 1]), Fg.It.dts [(x, y), (8, 1)], .val (.bool true), .val (.bool false), .val (.bool false)]) (fun _ => 0) (fun _ _ _ => True) (fun w => World.grownBy wr w none) [] (by kernel_rfl) (by kernel_rfl) (by kernel_rfl) (gb_drew (gb_refl _ _)) (Fg.ptrs_nil _ _) (Fg.no_store (by kernel_rfl)) ?_ ?_
              · refine ⟨Fg.value rfl fun ac w h => ?_, ?_⟩
                · have e6 : ac.tmps.getD 6 undef = .slice (some ⟨rb, 0, none⟩) 6 6 := h.rest 6 (by kernel_rfl)
                  refine ⟨wants_none rfl, .slice (some ⟨rb, 0, none⟩) 6 6, w, ?_, gb_refl _ _, rfl⟩
                  clear h
                  simp only [execOp, Act.eval, e6]
                  go_simp
                refine ⟨Fg.value rfl fun ac w h => ?_, ?_⟩
                · have e7 : ac.tmps.getD 7 undef = .int .i64 (n : Int) := h.rest 7 (by kernel_rfl)
                  refine ⟨wants_none rfl, .int .i64 (n : Int), w, ?_, gb_refl _ _, rfl⟩
                  clear h
                  simp only [execOp, Act.eval, e7]
                  go_simp
                refine ⟨Fg.value rfl fun ac w h => ?_, ?_⟩
                · have e53 : ac.tmps.getD 53 undef = .slice (some ⟨rb, 0, none⟩) 6 6 := h.dep 53 (by kernel_rfl)
                  have e54 : ac.tmps.getD 54 undef = .int .i64 (n : Int) := h.dep 54 (by kernel_rfl)
                  refine ⟨wants_none rfl, .pointer (some ⟨rb, n, none⟩), w, ?_, gb_refl _ _, rfl⟩
                  clear h
                  simp only [execOp, Act.eval, e53, e54]
                  go_simp
                refine ⟨Fg.value rfl fun ac w h => ?_, ?_⟩
                · have e55 : ac.tmps.getD 55 undef = .pointer (some ⟨rb, n, none⟩) := h.dep 55 (by kernel_rfl)
                  have c1 := (HC.out h.base).1
                  refine ⟨wants_none rfl, .slice an m cn, w, ?_, gb_refl _ _, rfl⟩
                  clear h
                  simp only [execOp, Act.eval, e55]
                  go_simp
                refine ⟨Fg.value rfl fun ac w h => ?_, ?_⟩
                · have e6 : ac.tmps.getD 6 undef = .slice (some ⟨rb, 0, none⟩) 6 6 := h.rest 6 (by kernel_rfl)
                  refine ⟨wants_none rfl, .slice (some ⟨rb, 0, none⟩) 6 6, w, ?_, gb_refl _ _, rfl⟩
                  clear h
                  simp only [execOp, Act.eval, e6]
                  go_simp
                refine ⟨Fg.value rfl fun ac w h => ?_, ?_⟩
                · have e57 : ac.tmps.getD 57 undef = .slice (some ⟨rb, 0, none⟩) 6 6 := h.dep 57 (by kernel_rfl)
                  refine ⟨wants_none rfl, .pointer (some ⟨rb, 1, none⟩), w, ?_, gb_refl _ _, rfl⟩
                  clear h
                  simp only [execOp, Act.eval, e57]
                  go_simp
                refine ⟨Fg.value rfl fun ac w h => ?_, ?_⟩
                · have e58 : ac.tmps.getD 58 undef = .pointer (some ⟨rb, 1, none⟩) := h.dep 58 (by kernel_rfl)
                  have c2 := (HC.out h.base).2.1
                  refine ⟨wants_none rfl, .slice (some ⟨b1, 0, none⟩) 1 1, w, ?_, gb_refl _ _, rfl⟩
                  clear h
                  simp only [execOp, Act.eval, e58]
                  go_simp
                refine ⟨Fg.value rfl fun ac w h => ?_, ?_⟩
                · have e5 : ac.tmps.getD 5 undef = .pointer (some ⟨db, 0, none⟩) := h.rest 5 (by kernel_rfl)
                  have c3 := (HC.out h.base).2.2.1
                  have c4 := (HC.out h.base).2.2.2
                  refine ⟨wants_none rfl, .agg #[iV x, iV y], w, ?_, gb_refl _ _, rfl⟩
                  clear h
                  simp only [execOp, Act.eval, e5]
                  go_simp
                refine ⟨Fg.call rfl fun ac w h => ?_, ?_⟩
                · have e56 : ac.tmps.getD 56 undef = .slice an m cn := h.dep 56 (by kernel_rfl)
                  have x56 : ac.tmps[56]?.getD undef = .slice an m cn := by simpa using e56
                  have e59 : ac.tmps.getD 59 undef = .slice (some ⟨b1, 0, none⟩) 1 1 := h.dep 59 (by kernel_rfl)
                  have x59 : ac.tmps[59]?.getD undef = .slice (some ⟨b1, 0, none⟩) 1 1 := by simpa using e59
                  have e60 : ac.tmps.getD 60 undef = .agg #[iV x, iV y] := h.dep 60 (by kernel_rfl)
                  have x60 : ac.tmps[60]?.getD undef = .agg #[iV x, iV y] := by simpa using e60
                  have hb := h.base
                  refine ⟨wants_none rfl, 5, #[.slice an m cn, .slice (some ⟨b1, 0, none⟩) 1 1, .agg #[iV x, iV y]], ?_, ?_⟩
                  · clear h hb e56 e59 e60
                    go_simp
                  · refine (HT1.out w h.base).mono ?_
                    intro e w1 hp
                    obtain ⟨rfl, hg⟩ := hp
                    exact ⟨_, rfl, hg, rfl⟩
                refine ⟨Fg.value rfl fun ac w h => ?_, ?_⟩
                · have e61 : ac.tmps.getD 61 undef = .bool true := h.dep 61 (by kernel_rfl)
                  refine ⟨wants_none rfl, .bool false, w, ?_, gb_refl _ _, rfl⟩
                  clear h
                  simp only [execOp, Act.eval, e61]
                  go_simp
                refine ⟨Fg.value rfl fun ac w h => ?_, ?_⟩
                · have e62 : ac.tmps.getD 62 undef = .bool false := h.dep 62 (by kernel_rfl)
                  refine ⟨wants_none rfl, .bool false, w, ?_, gb_refl _ _, rfl⟩
                  clear h
                  simp only [execOp, Act.eval, e62]
                  go_simp
                refine ⟨Fg.value rfl fun ac w h => ?_, ?_⟩
                · have e63 : ac.tmps.getD 63 undef = .bool false := h.dep 63 (by kernel_rfl)
                  have e6 : ac.tmps.getD 6 undef = .slice (some ⟨rb, 0, none⟩) 6 6 := h.rest 6 (by kernel_rfl)
                  refine ⟨wants_some (d := 63) rfl rfl (by rw [h.size]; show 63 < 89; decide) e63, .slice (some ⟨rb, 0, none⟩) 6 6, w, ?_, gb_refl _ _, rfl⟩
                  clear h
                  simp only [execOp, Act.eval, e6]
                  go_simp
                refine ⟨Fg.value rfl fun ac w h => ?_, ?_⟩
                · have e63 : ac.tmps.getD 63 undef = .bool false := h.dep 63 (by kernel_rfl)
                  have e64 : ac.tmps.getD 64 undef = .slice (some ⟨rb, 0, none⟩) 6 6 := h.dep 64 (by kernel_rfl)
                  refine ⟨wants_some (d := 63) rfl rfl (by rw [h.size]; show 63 < 89; decide) e63, .pointer (some ⟨rb, 1, none⟩), w, ?_, gb_refl _ _, rfl⟩
                  clear h
                  simp only [execOp, Act.eval, e64]
                  go_simp
                refine ⟨Fg.value rfl fun ac w h => ?_, ?_⟩
                · have e63 : ac.tmps.getD 63 undef = .bool false := h.dep 63 (by kernel_rfl)
                  have e65 : ac.tmps.getD 65 undef = .pointer (some ⟨rb, 1, none⟩) := h.dep 65 (by kernel_rfl)
                  have c2 := (HC.out h.base).2.1
                  refine ⟨wants_some (d := 63) rfl rfl (by rw [h.size]; show 63 < 89; decide) e63, .slice (some ⟨b1, 0, none⟩) 1 1, w, ?_, gb_refl _ _, rfl⟩
                  clear h
                  simp only [execOp, Act.eval, e65]
                  go_simp
                refine ⟨Fg.value rfl fun ac w h => ?_, ?_⟩
                · have e63 : ac.tmps.getD 63 undef = .bool false := h.dep 63 (by kernel_rfl)
                  have e6 : ac.tmps.getD 6 undef = .slice (some ⟨rb, 0, none⟩) 6 6 := h.rest 6 (by kernel_rfl)
                  refine ⟨wants_some (d := 63) rfl rfl (by rw [h.size]; show 63 < 89; decide) e63, .slice (some ⟨rb, 0, none⟩) 6 6, w, ?_, gb_refl _ _, rfl⟩
                  clear h
                  simp only [execOp, Act.eval, e6]
                  go_simp
                refine ⟨Fg.value rfl fun ac w h => ?_, ?_⟩
                · have e63 : ac.tmps.getD 63 undef = .bool false := h.dep 63 (by kernel_rfl)
                  have e7 : ac.tmps.getD 7 undef = .int .i64 (n : Int) := h.rest 7 (by kernel_rfl)
                  refine ⟨wants_some (d := 63) rfl rfl (by rw [h.size]; show 63 < 89; decide) e63, .int .i64 (n : Int), w, ?_, gb_refl _ _, rfl⟩
                  clear h
                  simp only [execOp, Act.eval, e7]
                  go_simp
                refine ⟨Fg.value rfl fun ac w h => ?_, ?_⟩
                · have e63 : ac.tmps.getD 63 undef = .bool false := h.dep 63 (by kernel_rfl)
                  have e67 : ac.tmps.getD 67 undef = .slice (some ⟨rb, 0, none⟩) 6 6 := h.dep 67 (by kernel_rfl)
                  have e68 : ac.tmps.getD 68 undef = .int .i64 (n : Int) := h.dep 68 (by kernel_rfl)
                  refine ⟨wants_some (d := 63) rfl rfl (by rw [h.size]; show 63 < 89; decide) e63, .pointer (some ⟨rb, n, none⟩), w, ?_, gb_refl _ _, rfl⟩
                  clear h
                  simp only [execOp, Act.eval, e67, e68]
                  go_simp
                refine ⟨Fg.value rfl fun ac w h => ?_, ?_⟩
                · have e63 : ac.tmps.getD 63 undef = .bool false := h.dep 63 (by kernel_rfl)
                  have e69 : ac.tmps.getD 69 undef = .pointer (some ⟨rb, n, none⟩) := h.dep 69 (by kernel_rfl)
                  have c1 := (HC.out h.base).1
                  refine ⟨wants_some (d := 63) rfl rfl (by rw [h.size]; show 63 < 89; decide) e63, .slice an m cn, w, ?_, gb_refl _ _, rfl⟩
                  clear h
                  simp only [execOp, Act.eval, e69]
                  go_simp
                refine ⟨Fg.value rfl fun ac w h => ?_, ?_⟩
                · have e63 : ac.tmps.getD 63 undef = .bool false := h.dep 63 (by kernel_rfl)
                  refine ⟨wants_some (d := 63) rfl rfl (by rw [h.size]; show 63 < 89; decide) e63, .agg #[.int .i64 2, .int .i64 2], w, ?_, gb_refl _ _, rfl⟩
                  clear h
                  skip
                  go_simp
                refine ⟨Fg.call rfl fun ac w h => ?_, ?_⟩
                · have e63 : ac.tmps.getD 63 undef = .bool false := h.dep 63 (by kernel_rfl)
                  have e66 : ac.tmps.getD 66 undef = .slice (some ⟨b1, 0, none⟩) 1 1 := h.dep 66 (by kernel_rfl)
                  have x66 : ac.tmps[66]?.getD undef = .slice (some ⟨b1, 0, none⟩) 1 1 := by simpa using e66
                  have e70 : ac.tmps.getD 70 undef = .slice an m cn := h.dep 70 (by kernel_rfl)
                  have x70 : ac.tmps[70]?.getD undef = .slice an m cn := by simpa using e70
                  have e71 : ac.tmps.getD 71 undef = .agg #[.int .i64 2, .int .i64 2] := h.dep 71 (by kernel_rfl)
                  have x71 : ac.tmps[71]?.getD undef = .agg #[.int .i64 2, .int .i64 2] := by simpa using e71
                  have hb := h.base
                  refine ⟨wants_some (d := 63) rfl rfl (by rw [h.size]; show 63 < 89; decide) e63, 5, #[.slice (some ⟨b1, 0, none⟩) 1 1, .slice an m cn, .agg #[.int .i64 2, .int .i64 2]], ?_, ?_⟩
                  · clear h hb e66 e70 e71
                    go_simp
                  · refine (HT2.out w h.base).mono ?_
                    intro e w1 hp
                    obtain ⟨rfl, hg⟩ := hp
                    exact ⟨_, rfl, hg, rfl⟩
                refine ⟨Fg.value rfl fun ac w h => ?_, ?_⟩
                · have e63 : ac.tmps.getD 63 undef = .bool false := h.dep 63 (by kernel_rfl)
                  have e72 : ac.tmps.getD 72 undef = .bool true := h.dep 72 (by kernel_rfl)
                  refine ⟨wants_some (d := 63) rfl rfl (by rw [h.size]; show 63 < 89; decide) e63, .bool false, w, ?_, gb_refl _ _, rfl⟩
                  clear h
                  simp only [execOp, Act.eval, e72]
                  go_simp
                refine ⟨Fg.value rfl fun ac w h => ?_, ?_⟩
                · have e63 : ac.tmps.getD 63 undef = .bool false := h.dep 63 (by kernel_rfl)
                  have e73 : ac.tmps.getD 73 undef = .bool false := h.dep 73 (by kernel_rfl)
                  refine ⟨wants_none rfl, .bool false, w, ?_, gb_refl _ _, rfl⟩
                  clear h
                  simp only [execOp, Act.eval, e63, e73]
                  go_simp
                refine ⟨Fg.value rfl fun ac w h => ?_, ?_⟩
                · have e74 : ac.tmps.getD 74 undef = .bool false := h.dep 74 (by kernel_rfl)
                  refine ⟨wants_none rfl, .bool false, w, ?_, gb_refl _ _, rfl⟩
                  clear h
                  simp only [execOp, Act.eval, e74]
                  go_simp
                refine ⟨Fg.value rfl fun ac w h => ?_, ?_⟩
                · have e75 : ac.tmps.getD 75 undef = .bool false := h.dep 75 (by kernel_rfl)
                  have e6 : ac.tmps.getD 6 undef = .slice (some ⟨rb, 0, none⟩) 6 6 := h.rest 6 (by kernel_rfl)
                  refine ⟨wants_some (d := 75) rfl rfl (by rw [h.size]; show 75 < 89; decide) e75, .slice (some ⟨rb, 0, none⟩) 6 6, w, ?_, gb_refl _ _, rfl⟩
                  clear h
                  simp only [execOp, Act.eval, e6]
                  go_simp
                refine ⟨Fg.value rfl fun ac w h => ?_, ?_⟩
                · have e75 : ac.tmps.getD 75 undef = .bool false := h.dep 75 (by kernel_rfl)
                  have e7 : ac.tmps.getD 7 undef = .int .i64 (n : Int) := h.rest 7 (by kernel_rfl)
                  refine ⟨wants_some (d := 75) rfl rfl (by rw [h.size]; show 75 < 89; decide) e75, .int .i64 (n : Int), w, ?_, gb_refl _ _, rfl⟩
                  clear h
                  simp only [execOp, Act.eval, e7]
                  go_simp
                refine ⟨Fg.value rfl fun ac w h => ?_, ?_⟩
                · have e75 : ac.tmps.getD 75 undef = .bool false := h.dep 75 (by kernel_rfl)
                  have e76 : ac.tmps.getD 76 undef = .slice (some ⟨rb, 0, none⟩) 6 6 := h.dep 76 (by kernel_rfl)
                  have e77 : ac.tmps.getD 77 undef = .int .i64 (n : Int) := h.dep 77 (by kernel_rfl)
                  refine ⟨wants_some (d := 75) rfl rfl (by rw [h.size]; show 75 < 89; decide) e75, .slice (some ⟨rb, n, none⟩) (6 - n) (6 - n), w, ?_, gb_refl _ _, rfl⟩
                  clear h
                  have hrun := HSL.out w
                  simp only [execOp, Act.eval, e76, e77, Option.map_some, Option.map_none]
                  go_simp
                refine ⟨Fg.value rfl fun ac w h => ?_, ?_⟩
                · have e75 : ac.tmps.getD 75 undef = .bool false := h.dep 75 (by kernel_rfl)
                  have e6 : ac.tmps.getD 6 undef = .slice (some ⟨rb, 0, none⟩) 6 6 := h.rest 6 (by kernel_rfl)
                  refine ⟨wants_some (d := 75) rfl rfl (by rw [h.size]; show 75 < 89; decide) e75, .slice (some ⟨rb, 0, none⟩) 6 6, w, ?_, gb_refl _ _, rfl⟩
                  clear h
                  simp only [execOp, Act.eval, e6]
                  go_simp
                refine ⟨Fg.value rfl fun ac w h => ?_, ?_⟩
                · have e75 : ac.tmps.getD 75 undef = .bool false := h.dep 75 (by kernel_rfl)
                  have e7 : ac.tmps.getD 7 undef = .int .i64 (n : Int) := h.rest 7 (by kernel_rfl)
                  refine ⟨wants_some (d := 75) rfl rfl (by rw [h.size]; show 75 < 89; decide) e75, .int .i64 (n : Int), w, ?_, gb_refl _ _, rfl⟩
                  clear h
                  simp only [execOp, Act.eval, e7]
                  go_simp
                refine ⟨Fg.value rfl fun ac w h => ?_, ?_⟩
                · have e75 : ac.tmps.getD 75 undef = .bool false := h.dep 75 (by kernel_rfl)
                  have e79 : ac.tmps.getD 79 undef = .slice (some ⟨rb, 0, none⟩) 6 6 := h.dep 79 (by kernel_rfl)
                  have e80 : ac.tmps.getD 80 undef = .int .i64 (n : Int) := h.dep 80 (by kernel_rfl)
                  refine ⟨wants_some (d := 75) rfl rfl (by rw [h.size]; show 75 < 89; decide) e75, .pointer (some ⟨rb, n, none⟩), w, ?_, gb_refl _ _, rfl⟩
                  clear h
                  simp only [execOp, Act.eval, e79, e80]
                  go_simp
                refine ⟨Fg.value rfl fun ac w h => ?_, ?_⟩
                · have e75 : ac.tmps.getD 75 undef = .bool false := h.dep 75 (by kernel_rfl)
                  have e81 : ac.tmps.getD 81 undef = .pointer (some ⟨rb, n, none⟩) := h.dep 81 (by kernel_rfl)
                  have c1 := (HC.out h.base).1
                  refine ⟨wants_some (d := 75) rfl rfl (by rw [h.size]; show 75 < 89; decide) e75, .slice an m cn, w, ?_, gb_refl _ _, rfl⟩
                  clear h
                  simp only [execOp, Act.eval, e81]
                  go_simp
                refine ⟨Fg.value rfl fun ac w h => ?_, ?_⟩
                · have e75 : ac.tmps.getD 75 undef = .bool false := h.dep 75 (by kernel_rfl)
                  have e5 : ac.tmps.getD 5 undef = .pointer (some ⟨db, 0, none⟩) := h.rest 5 (by kernel_rfl)
                  have c3 := (HC.out h.base).2.2.1
                  have c4 := (HC.out h.base).2.2.2
                  refine ⟨wants_some (d := 75) rfl rfl (by rw [h.size]; show 75 < 89; decide) e75, .agg #[iV x, iV y], w, ?_, gb_refl _ _, rfl⟩
                  clear h
                  simp only [execOp, Act.eval, e5]
                  go_simp
                refine ⟨Fg.value rfl fun ac w h => ?_, ?_⟩
                · have e75 : ac.tmps.getD 75 undef = .bool false := h.dep 75 (by kernel_rfl)
                  refine ⟨wants_some (d := 75) rfl rfl (by rw [h.size]; show 75 < 89; decide) e75, .agg #[.int .i64 8, .int .i64 1], w, ?_, gb_refl _ _, rfl⟩
                  clear h
                  skip
                  go_simp
                refine ⟨Fg.value rfl fun ac w h => ?_, ?_⟩
                · have e75 : ac.tmps.getD 75 undef = .bool false := h.dep 75 (by kernel_rfl)
                  have e83 : ac.tmps.getD 83 undef = .agg #[iV x, iV y] := h.dep 83 (by kernel_rfl)
                  have e84 : ac.tmps.getD 84 undef = .agg #[.int .i64 8, .int .i64 1] := h.dep 84 (by kernel_rfl)
                  have x83 : ac.tmps[83]?.getD undef = .agg #[iV x, iV y] := by simpa using e83
                  have x84 : ac.tmps[84]?.getD undef = .agg #[.int .i64 8, .int .i64 1] := by simpa using e84
                  refine ⟨wants_some (d := 75) rfl rfl (by rw [h.size]; show 75 < 89; decide) e75, .slice (some ⟨w.heap.size, 0, none⟩) 2 2, w.alloc (.cells #[iV x, iV y, .int .i64 8, .int .i64 1] 25), ?_, gb_alloc (gb_refl _ _) _, ⟨_, rfl, (dots_new w [(x, y), (8, 1)] 25 [iV x, iV y, iV 8, iV 1] rfl).full⟩⟩
                  clear h e83 e84
                  go_simp
                refine ⟨Fg.call rfl fun ac w h => ?_, ?_⟩
                · have e75 : ac.tmps.getD 75 undef = .bool false := h.dep 75 (by kernel_rfl)
                  have e78 : ac.tmps.getD 78 undef = .slice (some ⟨rb, n, none⟩) (6 - n) (6 - n) := h.dep 78 (by kernel_rfl)
                  have x78 : ac.tmps[78]?.getD undef = .slice (some ⟨rb, n, none⟩) (6 - n) (6 - n) := by simpa using e78
                  have e82 : ac.tmps.getD 82 undef = .slice an m cn := h.dep 82 (by kernel_rfl)
                  have x82 : ac.tmps[82]?.getD undef = .slice an m cn := by simpa using e82
                  obtain ⟨g85, e85, b85⟩ : ∃ g, ac.tmps.getD 85 undef = .slice (some ⟨g, 0, none⟩) 2 2 ∧ DotsAt w w.heap.size (some ⟨g, 0, none⟩) [(x, y), (8, 1)] := h.dep 85 (by kernel_rfl)
                  have x85 : ac.tmps[85]?.getD undef = .slice (some ⟨g85, 0, none⟩) 2 2 := by simpa using e85
                  have hb := h.base
                  refine ⟨wants_some (d := 75) rfl rfl (by rw [h.size]; show 75 < 89; decide) e75, 6, #[.slice (some ⟨rb, n, none⟩) (6 - n) (6 - n), .slice an m cn, .slice (some ⟨g85, 0, none⟩) 2 2], ?_, ?_⟩
                  · clear h hb e78 e82 e85 b85
                    go_simp
                  · refine (HJ3.out w h.base g85 b85).mono ?_
                    intro e w1 hp
                    obtain ⟨rfl, hg⟩ := hp
                    exact ⟨_, rfl, hg, rfl⟩
                refine ⟨Fg.value rfl fun ac w h => ?_, ?_⟩
                · have e75 : ac.tmps.getD 75 undef = .bool false := h.dep 75 (by kernel_rfl)
                  have e86 : ac.tmps.getD 86 undef = .bool true := h.dep 86 (by kernel_rfl)
                  refine ⟨wants_some (d := 75) rfl rfl (by rw [h.size]; show 75 < 89; decide) e75, .bool false, w, ?_, gb_refl _ _, rfl⟩
                  clear h
                  simp only [execOp, Act.eval, e86]
                  go_simp
                refine ⟨Fg.value rfl fun ac w h => ?_, ?_⟩
                · have e75 : ac.tmps.getD 75 undef = .bool false := h.dep 75 (by kernel_rfl)
                  have e87 : ac.tmps.getD 87 undef = .bool false := h.dep 87 (by kernel_rfl)
                  refine ⟨wants_none rfl, .bool false, w, ?_, gb_refl _ _, rfl⟩
                  clear h
                  simp only [execOp, Act.eval, e75, e87]
                  go_simp
                trivial
              · intro aq wq hB hsz hdf hrest hslots _
                obtain ⟨u53, hs53⟩ : ∃ u, aq.tmps.getD 53 undef = u := ⟨_, rfl⟩
                obtain ⟨u54, hs54⟩ : ∃ u, aq.tmps.getD 54 undef = u := ⟨_, rfl⟩
                obtain ⟨u55, hs55⟩ : ∃ u, aq.tmps.getD 55 undef = u := ⟨_, rfl⟩
                obtain ⟨u56, hs56⟩ : ∃ u, aq.tmps.getD 56 undef = u := ⟨_, rfl⟩
                obtain ⟨u57, hs57⟩ : ∃ u, aq.tmps.getD 57 undef = u := ⟨_, rfl⟩
                obtain ⟨u58, hs58⟩ : ∃ u, aq.tmps.getD 58 undef = u := ⟨_, rfl⟩
                obtain ⟨u59, hs59⟩ : ∃ u, aq.tmps.getD 59 undef = u := ⟨_, rfl⟩
                obtain ⟨u60, hs60⟩ : ∃ u, aq.tmps.getD 60 undef = u := ⟨_, rfl⟩
                obtain ⟨u61, hs61⟩ : ∃ u, aq.tmps.getD 61 undef = u := ⟨_, rfl⟩
                obtain ⟨u62, hs62⟩ : ∃ u, aq.tmps.getD 62 undef = u := ⟨_, rfl⟩
                obtain ⟨u63, hs63⟩ : ∃ u, aq.tmps.getD 63 undef = u := ⟨_, rfl⟩
                obtain ⟨u64, hs64⟩ : ∃ u, aq.tmps.getD 64 undef = u := ⟨_, rfl⟩
                obtain ⟨u65, hs65⟩ : ∃ u, aq.tmps.getD 65 undef = u := ⟨_, rfl⟩
                obtain ⟨u66, hs66⟩ : ∃ u, aq.tmps.getD 66 undef = u := ⟨_, rfl⟩
                obtain ⟨u67, hs67⟩ : ∃ u, aq.tmps.getD 67 undef = u := ⟨_, rfl⟩
                obtain ⟨u68, hs68⟩ : ∃ u, aq.tmps.getD 68 undef = u := ⟨_, rfl⟩
                obtain ⟨u69, hs69⟩ : ∃ u, aq.tmps.getD 69 undef = u := ⟨_, rfl⟩
                obtain ⟨u70, hs70⟩ : ∃ u, aq.tmps.getD 70 undef = u := ⟨_, rfl⟩
                obtain ⟨u71, hs71⟩ : ∃ u, aq.tmps.getD 71 undef = u := ⟨_, rfl⟩
                obtain ⟨u72, hs72⟩ : ∃ u, aq.tmps.getD 72 undef = u := ⟨_, rfl⟩
                obtain ⟨u73, hs73⟩ : ∃ u, aq.tmps.getD 73 undef = u := ⟨_, rfl⟩
                obtain ⟨u74, hs74⟩ : ∃ u, aq.tmps.getD 74 undef = u := ⟨_, rfl⟩
                obtain ⟨u75, hs75⟩ : ∃ u, aq.tmps.getD 75 undef = u := ⟨_, rfl⟩
                obtain ⟨u76, hs76⟩ : ∃ u, aq.tmps.getD 76 undef = u := ⟨_, rfl⟩
                obtain ⟨u77, hs77⟩ : ∃ u, aq.tmps.getD 77 undef = u := ⟨_, rfl⟩
                obtain ⟨u78, hs78⟩ : ∃ u, aq.tmps.getD 78 undef = u := ⟨_, rfl⟩
                obtain ⟨u79, hs79⟩ : ∃ u, aq.tmps.getD 79 undef = u := ⟨_, rfl⟩
                obtain ⟨u80, hs80⟩ : ∃ u, aq.tmps.getD 80 undef = u := ⟨_, rfl⟩
                obtain ⟨u81, hs81⟩ : ∃ u, aq.tmps.getD 81 undef = u := ⟨_, rfl⟩
                obtain ⟨u82, hs82⟩ : ∃ u, aq.tmps.getD 82 undef = u := ⟨_, rfl⟩
                obtain ⟨u83, hs83⟩ : ∃ u, aq.tmps.getD 83 undef = u := ⟨_, rfl⟩
                obtain ⟨u84, hs84⟩ : ∃ u, aq.tmps.getD 84 undef = u := ⟨_, rfl⟩
                obtain ⟨u85, hs85⟩ : ∃ u, aq.tmps.getD 85 undef = u := ⟨_, rfl⟩
                obtain ⟨u86, hs86⟩ : ∃ u, aq.tmps.getD 86 undef = u := ⟨_, rfl⟩
                obtain ⟨u87, hs87⟩ : ∃ u, aq.tmps.getD 87 undef = u := ⟨_, rfl⟩
                obtain rfl := Fg.frame_is (a := aq) (vs := [u0, Value.slice (some ⟨b0, 0, none⟩) 9 9, Value.slice (some ⟨b0 + 1, 0, none⟩) 9 9, Value.int .i64 (p : Int), Value.int .i64 (q : Int), Value.pointer (some ⟨db, 0, none⟩), Value.slice (some ⟨rb, 0, none⟩) 6 6, Value.int .i64 (n : Int), Value.bool true, Value.bool false, Value.slice (some ⟨b0, 0, none⟩) 9 9, Value.slice (some ⟨b0 + 1, 0, none⟩) 9 9, Value.int .i64 (p : Int), Value.slice (some ⟨b0, 0, none⟩) 9 9, Value.int .i64 9, Value.bool true, u16, u17, Value.int .i64 (q : Int), Value.slice (some ⟨b0 + 1, 0, none⟩) 9 9, Value.int .i64 9, Value.bool true, u22, u23, Value.slice (some ⟨b0, 0, none⟩) 9 9, Value.int .i64 (p : Int), Value.pointer (some ⟨b0, p, none⟩), iV x, Value.slice (some ⟨b0 + 1, 0, none⟩) 9 9, Value.int .i64 (q : Int), Value.pointer (some ⟨b0 + 1, q, none⟩), iV y, Value.agg #[iV x, iV y], Value.agg #[iV x, iV y], Value.slice (some ⟨Wd.heap.size, 0, none⟩) 1 1, Value.agg #[Value.int .i64 2, Value.int .i64 2], Value.slice (some ⟨Wd.heap.size + 1, 0, none⟩) 1 1, Value.agg #[iV x, iV y], Value.agg #[Value.int .i64 2, Value.int .i64 2], Value.slice (some ⟨Wd.heap.size + 1 + 1, 0, none⟩) 2 2, Value.agg #[Value.int .i64 2, Value.int .i64 2], Value.agg #[iV x, iV y], Value.slice (some ⟨Wd.heap.size + 1 + 1 + 1, 0, none⟩) 2 2, Value.agg #[iV x, iV y], Value.agg #[iV x, iV y], Value.slice (some ⟨Wd.heap.size + 1 + 1 + 1 + 1, 0, none⟩) 2 2, Value.slice (some ⟨rb, 0, none⟩) 6 6, Value.int .i64 (n : Int), Value.slice (some ⟨rb, 0, none⟩) 6 6, Value.int .i64 6, Value.bool true, u51, u52, u53, u54, u55, u56, u57, u58, u59, u60, u61, u62, u63, u64, u65, u66, u67, u68, u69, u70, u71, u72, u73, u74, u75, u76, u77, u78, u79, u80, u81, u82, u83, u84, u85, u86, u87, Value.bool false]) hsz ⟨hrest 0 (by kernel_rfl), hrest 1 (by kernel_rfl), hrest 2 (by kernel_rfl), hrest 3 (by kernel_rfl), hrest 4 (by kernel_rfl), hrest 5 (by kernel_rfl), hrest 6 (by kernel_rfl), hrest 7 (by kernel_rfl), hrest 8 (by kernel_rfl), hrest 9 (by kernel_rfl), hrest 10 (by kernel_rfl), hrest 11 (by kernel_rfl), hrest 12 (by kernel_rfl), hrest 13 (by kernel_rfl), hrest 14 (by kernel_rfl), hrest 15 (by kernel_rfl), hrest 16 (by kernel_rfl), hrest 17 (by kernel_rfl), hrest 18 (by kernel_rfl), hrest 19 (by kernel_rfl), hrest 20 (by kernel_rfl), hrest 21 (by kernel_rfl), hrest 22 (by kernel_rfl), hrest 23 (by kernel_rfl), hrest 24 (by kernel_rfl), hrest 25 (by kernel_rfl), hrest 26 (by kernel_rfl), hrest 27 (by kernel_rfl), hrest 28 (by kernel_rfl), hrest 29 (by kernel_rfl), hrest 30 (by kernel_rfl), hrest 31 (by kernel_rfl), hrest 32 (by kernel_rfl), hrest 33 (by kernel_rfl), hrest 34 (by kernel_rfl), hrest 35 (by kernel_rfl), hrest 36 (by kernel_rfl), hrest 37 (by kernel_rfl), hrest 38 (by kernel_rfl), hrest 39 (by kernel_rfl), hrest 40 (by kernel_rfl), hrest 41 (by kernel_rfl), hrest 42 (by kernel_rfl), hrest 43 (by kernel_rfl), hrest 44 (by kernel_rfl), hrest 45 (by kernel_rfl), hrest 46 (by kernel_rfl), hrest 47 (by kernel_rfl), hrest 48 (by kernel_rfl), hrest 49 (by kernel_rfl), hrest 50 (by kernel_rfl), hrest 51 (by kernel_rfl), hrest 52 (by kernel_rfl), hs53, hs54, hs55, hs56, hs57, hs58, hs59, hs60, hs61, hs62, hs63, hs64, hs65, hs66, hs67, hs68, hs69, hs70, hs71, hs72, hs73, hs74, hs75, hs76, hs77, hs78, hs79, hs80, hs81, hs82, hs83, hs84, hs85, hs86, hs87, (show aq.tmps.getD 88 undef = Value.bool false from hslots 88 (by kernel_rfl)), trivial⟩ hdf
                have HB0 := Lib.hid (And.intro (gb_trans HI.out.1 hB) (And.intro (HI.out.2.1.stay hB) (And.intro (HC.out hB).2.2 (Nat.lt_of_lt_of_le HI.out.2.2.2 hB.size))))
                clear hB hsz hdf hrest hslots hs53 hs54 hs55 hs56 hs57 hs58 hs59 hs60 hs61 hs62 hs63 hs64 hs65 hs66 hs67 hs68 hs69 hs70 hs71 hs72 hs73 hs74 hs75 hs76 hs77 hs78 hs79 hs80 hs81 hs82 hs83 hs84 hs85 hs86 hs87
                go_wp2
                go_roundw
                case rel => exact ⟨n + 1, by omega, by go_num, HB0.out⟩
                case measure => simp [intOf]; omega
            · obtain rfl : n = 6 := by omega
              have HF := Lib.hid HI.out.1
              go_wp2
              go_roundw
              case rel => exact ⟨q + 1, by omega, by go_num, HF.out⟩
              case measure => simp [intOf]; omega
        · obtain rfl : q = 9 := by omega
          have HF := Lib.hid (And.intro (gb_trans HP.out.1 HK.out) (And.intro (HP.out.2.1.stay HK.out) (HP.out.2.2.stay HK.out)))
          go_wp2
          go_roundw
          case rel => exact ⟨p + 1, by omega, by go_num, HF.out⟩
          case measure => simp [intOf]; omega
    · obtain rfl : p = 9 := by omega
      go_wp2
      exact HQ.out _ HP.out.1
end Ve
end Go.Proofs.YtkffbaihknhefaaGreat
