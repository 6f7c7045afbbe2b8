/- The kit's flatDots, walked: marks laid. (Its compares printed by gen_fdb.py.) -/
import Derived.Test.YtkffbaihknhefaaGreatFdGrow
import Derived.Test.YtkffbaihknhefaaGreatVeSame
import Derived.BigRegion
import Derived.RegionTactic
import Derived.Deep.RegionWith
import Derived.BigGuardPart
namespace Go.Proofs.YtkffbaihknhefaaGreat
open Go.RowKit Ve
namespace Fd
theorem make_nils (n : Nat) (w : World) (hn : n ≤ 100000) : ∃ w', (Instr.makeSlice 27 (.int .i64 n) (.int .i64 n)).run Tryz.prog w = .ok (.slice (some ⟨w.heap.size, 0, none⟩) n n) w' ∧
    w.grownBy w' none ∧ w'.heap.size = w.heap.size + 1 ∧ Blk w' w.heap.size 26 (List.replicate n (.slice none 0 0)) := Fd.make_nils0 n w hn
theorem gbk {w w' : World} {p : Addr} {v : Value} (hg : w.grownBy w' none) (h : w.cell? p = some v) : w'.cell? p = some v := by
  rw [gb_cell hg (block_lt_of_cell h) (by simp)]; exact h
/-- make of 64 dots -/
theorem make_dots (w : World) : ∃ w', (Instr.makeSlice 26 (.int .i64 64) (.int .i64 64)).run Tryz.prog w = .ok (.slice (some ⟨w.heap.size, 0, none⟩) 64 64) w' ∧ w.grownBy w' none ∧ ∃ L, L.length = 64 * 2 ∧ Blk w' w.heap.size 25 L := by
  obtain ⟨i, hi, hz, hs, hb⟩ := info_dot
  have h2 := run_make (P := Tryz.prog) w 26 25 i (.agg #[iV 0, iV 0]) Tryz.underlying26 hi hz .i64 .i64 64 64 (by omega) (by omega) (by rw [hb]; omega) (by omega)
  rw [hs] at h2
  refine ⟨_, h2, gb_alloc (gb_refl _ _) _, (madeCells (Value.agg #[iV 0, iV 0]).cells (Int.toNat 64 * 2)).toList, by rw [Array.length_toList, size_madeCells]; rfl, ?_⟩
  have := Blk.new w (madeCells (Value.agg #[iV 0, iV 0]).cells (Int.toNat 64 * 2)).toList 25
  rwa [Array.toArray_toList] at this
set_option maxRecDepth 100000 in
set_option maxHeartbeats 8000000 in
theorem flatD_any {f : Nat → Nat → Nat} (hf : MarksD f) (V : Lists) (m LB C : Nat) (xs : Nat → List Value) (w : World) (hm : m ≤ 70000) (hC : m ≤ C) (hC2 : C < 9223372036854775808) (hV : V.Apart m LB w.heap.size) (hO : Owns w V m xs) (hL : ListAt w LB V m) :
    Calls Tryz.prog 42 #[.slice (some ⟨LB, 0, none⟩) m C] w fun e w' => e = .returned (.bool true) ∧ FlatAt V m LB w w' (fun j => mkV f j (V.n j)) := by
  have HL := Lib.hid (fun j hj => (hO j hj).1 : ∀ j, j < m → (xs j).length = V.n j * 2)
  have hF : FlatAt V m LB w w (rowAt f V xs 0 0) := ⟨hO.congr (fun j _ => (rowAt_start f V xs j).symm), hL, kb_refl _ _⟩
  have HV := Lib.hid hV; clear hV
  have HF := Lib.hid hf; clear hf
  have H0 := Lib.hid hF; clear hF hO hL
  go_enter Tryz.func42, Tryz.ntmps42
  go_wp2_with fail
  go_loopw [3] (fun i wr => ∃ k : Nat, k ≤ m ∧ i = .int .i64 k ∧ FlatAt V m LB w wr (rowAt f V xs k 0)) (fun i _ => m - (intOf i).toNat)
  case atStart => exact ⟨0, by omega, rfl, H0.out⟩
  case round =>
    obtain ⟨k, hk, rfl, hR⟩ := hrel
    by_cases hlt : k < m
    · have i1 : (k : Int) < (m : Int) := by omega
      have HR := Lib.hid hR; clear hR
      go_wp2_with fail
      go_loopw [4] (fun i wr => ∃ j : Nat, j ≤ V.n k ∧ i = .int .i64 j ∧ FlatAt V m LB w wr (rowAt f V xs k j)) (fun i _ => V.n k - (intOf i).toNat)
      case atStart => exact ⟨0, by omega, rfl, HR.out⟩
      case round =>
        obtain ⟨j, hj, rfl, hR2⟩ := hrel
        have kc := hR2.at hlt
        by_cases hjn : j < V.n k
        · obtain ⟨g, hA, hg⟩ := hR2.own.some hlt (by omega)
          have hsm := HV.out.small k hlt
          have hHI : Hid (∀ W', wr.grownBy W' none → W'.cell? ⟨LB, k, none⟩ = some (.slice (some ⟨g, 0, none⟩) (V.n k) (V.C k)) ∧ (∃ u, W'.cell? ⟨g, j * 2, none⟩ = some u) ∧ (∃ u, W'.cell? ⟨g, j * 2 + 1, none⟩ = some u) ∧ W'.frozen? ⟨g, j * 2, none⟩ = false ∧ W'.frozen? ⟨g, j * 2 + 1, none⟩ = false ∧
              FlatAt V m LB w ((W'.setCell ⟨g, j * 2, none⟩ (iV 0)).setCell ⟨g, j * 2 + 1, none⟩ (iV (f k j))) (rowAt f V xs k (j + 1))) := fun W' hgW => by
            have h := hR2.stay hgW
            have hl : j * 2 + 1 < (xs k).length := by rw [HL.out k hlt]; omega
            have h1 := h.at hlt
            rw [hA] at h1
            exact ⟨h1, (h.old hlt hl hA).1, (h.old hlt hl hA).2, h.free hlt hA, h.free hlt hA, h.set HV.out hlt hl hA⟩
          rw [hA] at kc
          obtain ⟨y, hy⟩ : ∃ y, y = f k j := ⟨_, rfl⟩
          have HMB := Lib.hid (fun W => HF.out k j W (by omega) (by omega))
          rw [← hy] at HMB hHI
          clear hA hR2 hg hy
          generalize hnk : V.n k = nk at *
          generalize V.C k = ck at *
          have HN := Lib.hid hnk; clear hnk
          have i2 : (j : Int) < (nk : Int) := by omega
          go_wp2_with fail
          go_region_with (go_at_call 23; refine (HMB.out _).mono ?_; rintro e w' ⟨rfl, hgw⟩; obtain ⟨kc2, ⟨u1, e1⟩, ⟨u2, e2⟩, f1, f2, hset⟩ := hHI.out w' (gb_trans (gb_drew (gb_refl wr none)) hgw); have HSET := Lib.hid hset; clear hset hgw kc)
          all_goals
            go_wp2
            go_roundw
            case rel => exact ⟨j + 1, hjn, by go_num, HSET.out⟩
            case measure => simp [intOf]; omega
        · obtain rfl : j = V.n k := by omega
          have hR3 := hR2.congr (fun j _ => rowAt_next f V xs k j (HL.out k hlt))
          have HI := Lib.hid hR3; clear hR3 hR2
          generalize hnk : V.n k = nk at *
          generalize V.C k = ck at *
          have HN := Lib.hid hnk; clear hnk
          go_wp2_with fail
          go_roundw
          case rel => exact ⟨k + 1, hlt, by go_num, HI.out⟩
          case measure => simp [intOf]; omega
    · obtain rfl : k = m := by omega
      have hR1 := hR.congr (r' := fun j => mkV f j (V.n j)) (fun j hj => rowAt_end f V xs k j hj)
      have hLB := H0.out.list.lt
      obtain ⟨w3, hmk, hg3, hs3, hb3⟩ := make_nils k wr (by omega)
      have hF3 : Filed f V k LB wr.heap.size w w3 (fun j => mkV f j (V.n j)) (fun _ => .slice none 0 0) 0 := ⟨hR1.stay hg3, by rw [filed_start]; exact hb3, fun j hj => by omega⟩
      have hGB : w.heap.size ≤ wr.heap.size := hR1.kept.size
      generalize hB : wr.heap.size = GB at *
      have HG := Lib.hid (And.intro hGB hLB); clear hGB hLB hg3 hs3 hb3 hB hR hR1
      have H3 := Lib.hid hF3; clear hF3
      go_wp2_with fail
      clear hmk
      go_loopw [6] (fun i wr => ∃ (k' : Nat) (vs : Nat → Value), k' ≤ k ∧ i = .int .i64 k' ∧ Filed f V k LB GB w wr (fun j => mkV f j (V.n j)) vs k') (fun i _ => k - (intOf i).toNat)
      case atStart => exact ⟨0, _, by omega, rfl, H3.out⟩
      case round =>
        clear H3
        obtain ⟨q, vs, hq, rfl, hR⟩ := hrel
        by_cases hlt : q < k
        · have i1 : (q : Int) < (k : Int) := by omega
          have kc := hR.flat.at hlt
          have hsm := HV.out.small q hlt
          have HR := Lib.hid hR; clear hR
          go_wp2_with fail
          go_loopw [7, 8] (fun v i wr2 => ∃ t : Nat, t ≤ 64 ∧ i = .int .i64 t ∧ FlatAt V k LB w wr2 (fun j => mkV f j (V.n j)) ∧ Kb (fun i => V.g q = some i) wr wr2 ∧ Own2 wr2 0 (V.n q + t) v (mkV f q (V.n q + t)) ∧ Grew V q wr.heap.size (V.n q + t) v) (fun _ i _ => 64 - (intOf i).toNat)
          case atStart => exact ⟨0, by omega, rfl, HR.out.flat, kb_refl _ _, HR.out.flat.own q hlt, Or.inl rfl⟩
          case round =>
            obtain ⟨t, ht, rfl, hF2, hK2, ho2, hg2⟩ := hrel
            have kc := hF2.at hlt
            by_cases ht6 : t < 64
            · obtain ⟨y, hy⟩ : ∃ y, y = f q (V.n q + t) := ⟨_, rfl⟩
              have hmb : ∀ W, Calls Tryz.prog 23 #[.int .i64 q, .int .i64 ((V.n q : Int) + (t : Int))] W (MarkOut W y) := fun W => by
                have := HF.out q (V.n q + t) W (by omega) (by omega)
                rw [← hy] at this
                rwa [Int.natCast_add] at this
              have hnext : ∀ W, wr.grownBy W none → ∃ v' w4, (Builtin.append_ #[26, 26] 26 #[u7, .slice (some ⟨W.heap.size, 0, none⟩) 1 1]).run Tryz.prog (W.alloc (.cells #[iV 0, iV y] 25)) = .ok v' w4 ∧
                  FlatAt V k LB w w4 (fun j => mkV f j (V.n j)) ∧ Kb (fun i => V.g q = some i) _ w4 ∧ Own2 w4 0 (V.n q + (t + 1)) v' (mkV f q (V.n q + (t + 1))) ∧ Grew V q _ (V.n q + (t + 1)) v' := fun W hW => by
                have hgb : wr.grownBy (W.alloc (.cells #[iV 0, iV y] 25)) none := gb_alloc hW _
                obtain ⟨v', w4, hap, hF4, hK4, ho4, hg4⟩ := flat_append (r := fun j => mkV f j (V.n j)) HV.out HG.out.2 (HR.out.flat.kept.size) (hF2.stay hgb) (kb_stay hK2 hgb) hlt u7 (V.n q + t) _ (by omega) (ho2.kept hgb (by cases u7.ownBlock <;> simp)) (mkV_take f q _ _ (by omega)) hg2 ⟨W.heap.size, 0, none⟩ 1 1 [iV 0, iV y] (by omega) rfl (fun j u hu => by
                  have hb := Blk.new W [iV 0, iV y] 25
                  rw [Addr.add_lit, Nat.zero_add]; exact hb.cell hu) (fun u hu => by simp at hu; rcases hu with rfl | rfl <;> rfl) (by omega)
                rw [hy, ← mkV_next] at ho4
                exact ⟨v', w4, hap, hF4, hK4, ho4, hg4⟩
              have HI := Lib.hid (And.intro hnext hmb); clear hnext hmb hF2 hK2 ho2 hg2
              have HY := Lib.hid hy; clear hy
              generalize hnk : V.n q = nk at *
              have HN := Lib.hid hnk; clear hnk
              have i2 : (t : Int) < 64 := by omega
              go_wp2_with fail
              refine (HI.out.2 _).mono ?_
              rintro e w5 ⟨rfl, hg5⟩
              obtain ⟨v', w4, hap, hF4, hK4, ho4, hg4⟩ := HI.out.1 w5 hg5
              have HJ := Lib.hid (And.intro hF4 (And.intro hK4 (And.intro ho4 hg4))); clear hF4 hK4 ho4 hg4 hg5
              go_wp2_with (at_builtin; refine Lib.wpList_append_run _ rfl _ _ _ _ rfl _ _ rfl rfl _ _ hap ?_)
              go_roundw
              case rel => exact ⟨t + 1, ht6, by go_num, HJ.out.1, HJ.out.2.1, HJ.out.2.2.1, HJ.out.2.2.2⟩
              case measure => simp [intOf]; omega
            · obtain rfl : t = 64 := by omega
              obtain ⟨c0, f0, hF4⟩ := HR.out.next HV.out HG.out.2 hlt HG.out.1 hF2 hK2 ho2 hg2
              obtain ⟨g, c, rfl, _⟩ := own_some ho2 (by omega)
              have HI := Lib.hid hF4; clear hF4 hF2 hK2 ho2 hg2
              go_wp2_with fail
              go_roundw
              case rel => exact ⟨q + 1, _, hlt, by go_num, HI.out⟩
              case measure => simp [intOf]; omega
        · obtain rfl : q = k := by omega
          have HR := Lib.hid hR; clear hR
          go_wp2_with fail
          go_loopw [9] (fun i wr => ∃ p : Nat, p ≤ q ∧ i = .int .i64 p ∧ Filed f V q LB GB w wr (fun j => mkV f j (V.n j)) vs q) (fun i _ => q - (intOf i).toNat)
          case atStart => exact ⟨0, by omega, rfl, HR.out⟩
          case round =>
            clear HR
            obtain ⟨p, hp, rfl, hR⟩ := hrel
            by_cases hpq : p < q
            · have i1 : (p : Int) < (q : Int) := by omega
              have HR := Lib.hid hR; clear hR
              go_wp2_with fail
              go_loopw [10] (fun i wr => ∃ j : Nat, j ≤ V.n p + 64 ∧ i = .int .i64 j ∧ Filed f V q LB GB w wr (fun j => mkV f j (V.n j)) vs q) (fun i _ => V.n p + 64 - (intOf i).toNat)
              case atStart => exact ⟨0, by omega, rfl, HR.out⟩
              case round =>
                clear HR
                obtain ⟨j, hj, rfl, hR⟩ := hrel
                have kc := hR.flat.at hpq
                have hsm := HV.out.small p hpq
                have HR := Lib.hid hR; clear hR
                obtain ⟨g, c, hvs, kg, kj, hnc⟩ := HR.out.at hpq
                have kj1 := kj j
                clear kj
                by_cases hj1 : j < V.n p + 64
                · obtain ⟨kj2, kj3⟩ := kj1 hj1
                  clear kj1
                  have HMB := Lib.hid (fun W => HF.out p j W (by omega) (by omega))
                  by_cases hjn : j < V.n p
                  · obtain ⟨g2, hA, kk, kk2⟩ := HR.out.flat.mark hpq hjn
                    rw [hA] at kc
                    clear hA hvs
                    generalize f p j = y at *
                    generalize V.n p = np at *
                    generalize V.C p = cp at *
                    have i2 : (j : Int) < (np : Int) := by omega
                    have i3 : (j : Int) < (np : Int) + 64 := by omega
                    have HK : Hid (∀ {w' : World}, wr.grownBy w' none → w'.cell? ⟨LB, p, none⟩ = some (.slice (some ⟨g2, 0, none⟩) np cp) ∧ w'.cell? ⟨GB, p, none⟩ = some (.slice (some ⟨g, 0, none⟩) (np + 64) c) ∧ w'.cell? ⟨g, j * 2, none⟩ = some (iV 0) ∧ w'.cell? ⟨g, j * 2 + 1, none⟩ = some (iV y) ∧ w'.cell? ⟨g2, j * 2, none⟩ = some (iV 0) ∧ w'.cell? ⟨g2, j * 2 + 1, none⟩ = some (iV y)) := fun {w'} hg =>
                      ⟨gbk hg kc, gbk hg kg, gbk hg kj2, gbk hg kj3, gbk hg kk, gbk hg kk2⟩
                    have he : ∀ w, (Op.equalIn 10000 25 (.agg #[.int .i64 0, .int .i64 (y : Int)]) (.agg #[.int .i64 0, .int .i64 (y : Int)])).run Tryz.prog w = .ok true w := fun w => by rw [eq_dot]; simp
                    go_wp2_with fail
                    refine wp_region_flow3 (Fg.its [.any, .any, .any, .any, .any, .any, .any, .any, .any, .any, .any, .any, .any, .any, .any, .any, .any, .any, .any, .any, .any, .any, .any, .any, .any, .any, .any, .any, .any, .any, .any, .any, .any, .any, .any, .any, .any, .any, .any, .any, .any, .any, .any, .any, .any, .any, .any, .any, .any, .any, .any, .any, .any, .any, .any, .any, .any, .any, .any, .any, .any, .any, .any, .any, .any, .any, .any, .any, .any, .any, .any, .any, .any, .any, .any, .any, .any, .any, .any, .any, .any, .any, .any, .any, .any, .any, .any, .any, .val (.slice (some ⟨GB, 0, none⟩) q q), .val (.int .i64 (p : Int)), .val (.pointer (some ⟨GB, p, none⟩)), .val (.slice (some ⟨g, 0, none⟩) (np + 64) c), .val (.int .i64 (j : Int)), .val (.pointer (some ⟨g, j * 2, none⟩)), .val (.agg #[iV 0, iV (y : Int)]), .val (.int .i64 (p : Int)), .val (.int .i64 (j : Int)), .val (.agg #[iV 0, iV (y : Int)]), .val (.bool true), .val (.bool false), .val (.bool false), .val (.int .i64 (j : Int)), .val (.slice (some ⟨LB, 0, none⟩) q C), .val (.int .i64 (p : Int)), .val (.pointer (some ⟨LB, p, none⟩)), .val (.slice (some ⟨g2, 0, none⟩) np cp), .val (.int .i64 np), .val (.bool true), .val (.bool true), .val (.slice (some ⟨LB, 0, none⟩) q C), .val (.int .i64 (p : Int)), .val (.pointer (some ⟨LB, p, none⟩)), .val (.slice (some ⟨g2, 0, none⟩) np cp), .val (.int .i64 (j : Int)), .val (.pointer (some ⟨g2, j * 2, none⟩)), .val (.agg #[iV 0, iV (y : Int)]), .val (.int .i64 (p : Int)), .val (.int .i64 (j : Int)), .val (.agg #[iV 0, iV (y : Int)]), .val (.bool true), .val (.bool false), .val (.bool false), .val (.bool false)]) (fun _ => 0) (fun _ _ _ => True) (fun w => World.grownBy wr w none) [] (by kernel_rfl) (by kernel_rfl) (by kernel_rfl) (gb_drew (gb_refl _ _)) (Fg.ptrs_nil _ _) (Fg.no_store (by kernel_rfl)) ?_ ?_
                    · refine ⟨Fg.value rfl fun ac w h => ?_, ?_⟩
                      · have e5 : ac.tmps.getD 5 undef = .slice (some ⟨GB, 0, none⟩) q q := h.rest 5 (by kernel_rfl)
                        refine ⟨wants_none rfl, .slice (some ⟨GB, 0, none⟩) q q, w, ?_, gb_refl _ _, rfl⟩
                        clear h
                        simp only [execOp, Act.eval, e5]
                        go_simp
                      refine ⟨Fg.value rfl fun ac w h => ?_, ?_⟩
                      · have e9 : ac.tmps.getD 9 undef = .int .i64 (p : Int) := h.rest 9 (by kernel_rfl)
                        refine ⟨wants_none rfl, .int .i64 (p : Int), w, ?_, gb_refl _ _, rfl⟩
                        clear h
                        simp only [execOp, Act.eval, e9]
                        go_simp
                      refine ⟨Fg.value rfl fun ac w h => ?_, ?_⟩
                      · have e88 : ac.tmps.getD 88 undef = .slice (some ⟨GB, 0, none⟩) q q := h.dep 88 (by kernel_rfl)
                        have e89 : ac.tmps.getD 89 undef = .int .i64 (p : Int) := h.dep 89 (by kernel_rfl)
                        refine ⟨wants_none rfl, .pointer (some ⟨GB, p, none⟩), w, ?_, gb_refl _ _, rfl⟩
                        clear h
                        simp only [execOp, Act.eval, e88, e89]
                        go_simp
                      refine ⟨Fg.value rfl fun ac w h => ?_, ?_⟩
                      · have e90 : ac.tmps.getD 90 undef = .pointer (some ⟨GB, p, none⟩) := h.dep 90 (by kernel_rfl)
                        have c1 := (HK.out h.base).2.1
                        refine ⟨wants_none rfl, .slice (some ⟨g, 0, none⟩) (np + 64) c, w, ?_, gb_refl _ _, rfl⟩
                        clear h
                        simp only [execOp, Act.eval, e90]
                        go_simp
                      refine ⟨Fg.value rfl fun ac w h => ?_, ?_⟩
                      · have e10 : ac.tmps.getD 10 undef = .int .i64 (j : Int) := h.rest 10 (by kernel_rfl)
                        refine ⟨wants_none rfl, .int .i64 (j : Int), w, ?_, gb_refl _ _, rfl⟩
                        clear h
                        simp only [execOp, Act.eval, e10]
                        go_simp
                      refine ⟨Fg.value rfl fun ac w h => ?_, ?_⟩
                      · have e91 : ac.tmps.getD 91 undef = .slice (some ⟨g, 0, none⟩) (np + 64) c := h.dep 91 (by kernel_rfl)
                        have e92 : ac.tmps.getD 92 undef = .int .i64 (j : Int) := h.dep 92 (by kernel_rfl)
                        refine ⟨wants_none rfl, .pointer (some ⟨g, j * 2, none⟩), w, ?_, gb_refl _ _, rfl⟩
                        clear h
                        simp only [execOp, Act.eval, e91, e92]
                        go_simp
                      refine ⟨Fg.value rfl fun ac w h => ?_, ?_⟩
                      · have e93 : ac.tmps.getD 93 undef = .pointer (some ⟨g, j * 2, none⟩) := h.dep 93 (by kernel_rfl)
                        have c2 := (HK.out h.base).2.2.1
                        have c3 := (HK.out h.base).2.2.2.1
                        refine ⟨wants_none rfl, .agg #[iV 0, iV (y : Int)], w, ?_, gb_refl _ _, rfl⟩
                        clear h
                        simp only [execOp, Act.eval, e93]
                        go_simp
                      refine ⟨Fg.value rfl fun ac w h => ?_, ?_⟩
                      · have e9 : ac.tmps.getD 9 undef = .int .i64 (p : Int) := h.rest 9 (by kernel_rfl)
                        refine ⟨wants_none rfl, .int .i64 (p : Int), w, ?_, gb_refl _ _, rfl⟩
                        clear h
                        simp only [execOp, Act.eval, e9]
                        go_simp
                      refine ⟨Fg.value rfl fun ac w h => ?_, ?_⟩
                      · have e10 : ac.tmps.getD 10 undef = .int .i64 (j : Int) := h.rest 10 (by kernel_rfl)
                        refine ⟨wants_none rfl, .int .i64 (j : Int), w, ?_, gb_refl _ _, rfl⟩
                        clear h
                        simp only [execOp, Act.eval, e10]
                        go_simp
                      refine ⟨Fg.call rfl fun ac w h => ?_, ?_⟩
                      · have e95 : ac.tmps.getD 95 undef = .int .i64 (p : Int) := h.dep 95 (by kernel_rfl)
                        have x95 : ac.tmps[95]?.getD undef = .int .i64 (p : Int) := by simpa using e95
                        have e96 : ac.tmps.getD 96 undef = .int .i64 (j : Int) := h.dep 96 (by kernel_rfl)
                        have x96 : ac.tmps[96]?.getD undef = .int .i64 (j : Int) := by simpa using e96
                        have hb := h.base
                        refine ⟨wants_none rfl, 23, #[.int .i64 (p : Int), .int .i64 (j : Int)], ?_, ?_⟩
                        · clear h hb e95 e96
                          go_simp
                        · refine (HMB.out w).mono ?_
                          intro e w1 hp
                          obtain ⟨rfl, hg⟩ := hp
                          exact ⟨_, rfl, hg, rfl⟩
                      refine ⟨Fg.value rfl fun ac w h => ?_, ?_⟩
                      · have e94 : ac.tmps.getD 94 undef = .agg #[iV 0, iV (y : Int)] := h.dep 94 (by kernel_rfl)
                        have e97 : ac.tmps.getD 97 undef = .agg #[iV 0, iV (y : Int)] := h.dep 97 (by kernel_rfl)
                        refine ⟨wants_none rfl, .bool true, w, ?_, gb_refl _ _, rfl⟩
                        clear h
                        simp only [execOp, Act.eval, e94, e97]
                        go_simp
                      refine ⟨Fg.value rfl fun ac w h => ?_, ?_⟩
                      · have e98 : ac.tmps.getD 98 undef = .bool true := h.dep 98 (by kernel_rfl)
                        refine ⟨wants_none rfl, .bool false, w, ?_, gb_refl _ _, rfl⟩
                        clear h
                        simp only [execOp, Act.eval, e98]
                        go_simp
                      refine ⟨Fg.value rfl fun ac w h => ?_, ?_⟩
                      · have e99 : ac.tmps.getD 99 undef = .bool false := h.dep 99 (by kernel_rfl)
                        refine ⟨wants_none rfl, .bool false, w, ?_, gb_refl _ _, rfl⟩
                        clear h
                        simp only [execOp, Act.eval, e99]
                        go_simp
                      refine ⟨Fg.value rfl fun ac w h => ?_, ?_⟩
                      · have e100 : ac.tmps.getD 100 undef = .bool false := h.dep 100 (by kernel_rfl)
                        have e10 : ac.tmps.getD 10 undef = .int .i64 (j : Int) := h.rest 10 (by kernel_rfl)
                        refine ⟨wants_some (d := 100) rfl rfl (by rw [h.size]; show 100 < 193; decide) e100, .int .i64 (j : Int), w, ?_, gb_refl _ _, rfl⟩
                        clear h
                        simp only [execOp, Act.eval, e10]
                        go_simp
                      refine ⟨Fg.value rfl fun ac w h => ?_, ?_⟩
                      · have e100 : ac.tmps.getD 100 undef = .bool false := h.dep 100 (by kernel_rfl)
                        have e0 : ac.tmps.getD 0 undef = .slice (some ⟨LB, 0, none⟩) q C := h.rest 0 (by kernel_rfl)
                        refine ⟨wants_some (d := 100) rfl rfl (by rw [h.size]; show 100 < 193; decide) e100, .slice (some ⟨LB, 0, none⟩) q C, w, ?_, gb_refl _ _, rfl⟩
                        clear h
                        simp only [execOp, Act.eval, e0]
                        go_simp
                      refine ⟨Fg.value rfl fun ac w h => ?_, ?_⟩
                      · have e100 : ac.tmps.getD 100 undef = .bool false := h.dep 100 (by kernel_rfl)
                        have e9 : ac.tmps.getD 9 undef = .int .i64 (p : Int) := h.rest 9 (by kernel_rfl)
                        refine ⟨wants_some (d := 100) rfl rfl (by rw [h.size]; show 100 < 193; decide) e100, .int .i64 (p : Int), w, ?_, gb_refl _ _, rfl⟩
                        clear h
                        simp only [execOp, Act.eval, e9]
                        go_simp
                      refine ⟨Fg.value rfl fun ac w h => ?_, ?_⟩
                      · have e100 : ac.tmps.getD 100 undef = .bool false := h.dep 100 (by kernel_rfl)
                        have e102 : ac.tmps.getD 102 undef = .slice (some ⟨LB, 0, none⟩) q C := h.dep 102 (by kernel_rfl)
                        have e103 : ac.tmps.getD 103 undef = .int .i64 (p : Int) := h.dep 103 (by kernel_rfl)
                        refine ⟨wants_some (d := 100) rfl rfl (by rw [h.size]; show 100 < 193; decide) e100, .pointer (some ⟨LB, p, none⟩), w, ?_, gb_refl _ _, rfl⟩
                        clear h
                        simp only [execOp, Act.eval, e102, e103]
                        go_simp
                      refine ⟨Fg.value rfl fun ac w h => ?_, ?_⟩
                      · have e100 : ac.tmps.getD 100 undef = .bool false := h.dep 100 (by kernel_rfl)
                        have e104 : ac.tmps.getD 104 undef = .pointer (some ⟨LB, p, none⟩) := h.dep 104 (by kernel_rfl)
                        have c0 := (HK.out h.base).1
                        refine ⟨wants_some (d := 100) rfl rfl (by rw [h.size]; show 100 < 193; decide) e100, .slice (some ⟨g2, 0, none⟩) np cp, w, ?_, gb_refl _ _, rfl⟩
                        clear h
                        simp only [execOp, Act.eval, e104]
                        go_simp
                      refine ⟨Fg.value rfl fun ac w h => ?_, ?_⟩
                      · have e100 : ac.tmps.getD 100 undef = .bool false := h.dep 100 (by kernel_rfl)
                        have e105 : ac.tmps.getD 105 undef = .slice (some ⟨g2, 0, none⟩) np cp := h.dep 105 (by kernel_rfl)
                        have x105 : ac.tmps[105]?.getD undef = .slice (some ⟨g2, 0, none⟩) np cp := by simpa using e105
                        refine ⟨wants_some (d := 100) rfl rfl (by rw [h.size]; show 100 < 193; decide) e100, .int .i64 np, w, ?_, gb_refl _ _, rfl⟩
                        clear h e105
                        go_simp
                      refine ⟨Fg.value rfl fun ac w h => ?_, ?_⟩
                      · have e100 : ac.tmps.getD 100 undef = .bool false := h.dep 100 (by kernel_rfl)
                        have e101 : ac.tmps.getD 101 undef = .int .i64 (j : Int) := h.dep 101 (by kernel_rfl)
                        have e106 : ac.tmps.getD 106 undef = .int .i64 np := h.dep 106 (by kernel_rfl)
                        refine ⟨wants_some (d := 100) rfl rfl (by rw [h.size]; show 100 < 193; decide) e100, .bool true, w, ?_, gb_refl _ _, rfl⟩
                        clear h
                        simp only [execOp, Act.eval, e101, e106]
                        go_simp
                      refine ⟨Fg.value rfl fun ac w h => ?_, ?_⟩
                      · have e100 : ac.tmps.getD 100 undef = .bool false := h.dep 100 (by kernel_rfl)
                        have e107 : ac.tmps.getD 107 undef = .bool true := h.dep 107 (by kernel_rfl)
                        refine ⟨wants_some (d := 100) rfl rfl (by rw [h.size]; show 100 < 193; decide) e100, .bool true, w, ?_, gb_refl _ _, rfl⟩
                        clear h
                        simp only [execOp, Act.eval, e107]
                        go_simp
                      refine ⟨Fg.value rfl fun ac w h => ?_, ?_⟩
                      · have e108 : ac.tmps.getD 108 undef = .bool true := h.dep 108 (by kernel_rfl)
                        have e0 : ac.tmps.getD 0 undef = .slice (some ⟨LB, 0, none⟩) q C := h.rest 0 (by kernel_rfl)
                        refine ⟨wants_some (d := 108) rfl rfl (by rw [h.size]; show 108 < 193; decide) e108, .slice (some ⟨LB, 0, none⟩) q C, w, ?_, gb_refl _ _, rfl⟩
                        clear h
                        simp only [execOp, Act.eval, e0]
                        go_simp
                      refine ⟨Fg.value rfl fun ac w h => ?_, ?_⟩
                      · have e108 : ac.tmps.getD 108 undef = .bool true := h.dep 108 (by kernel_rfl)
                        have e9 : ac.tmps.getD 9 undef = .int .i64 (p : Int) := h.rest 9 (by kernel_rfl)
                        refine ⟨wants_some (d := 108) rfl rfl (by rw [h.size]; show 108 < 193; decide) e108, .int .i64 (p : Int), w, ?_, gb_refl _ _, rfl⟩
                        clear h
                        simp only [execOp, Act.eval, e9]
                        go_simp
                      refine ⟨Fg.value rfl fun ac w h => ?_, ?_⟩
                      · have e108 : ac.tmps.getD 108 undef = .bool true := h.dep 108 (by kernel_rfl)
                        have e109 : ac.tmps.getD 109 undef = .slice (some ⟨LB, 0, none⟩) q C := h.dep 109 (by kernel_rfl)
                        have e110 : ac.tmps.getD 110 undef = .int .i64 (p : Int) := h.dep 110 (by kernel_rfl)
                        refine ⟨wants_some (d := 108) rfl rfl (by rw [h.size]; show 108 < 193; decide) e108, .pointer (some ⟨LB, p, none⟩), w, ?_, gb_refl _ _, rfl⟩
                        clear h
                        simp only [execOp, Act.eval, e109, e110]
                        go_simp
                      refine ⟨Fg.value rfl fun ac w h => ?_, ?_⟩
                      · have e108 : ac.tmps.getD 108 undef = .bool true := h.dep 108 (by kernel_rfl)
                        have e111 : ac.tmps.getD 111 undef = .pointer (some ⟨LB, p, none⟩) := h.dep 111 (by kernel_rfl)
                        have c0 := (HK.out h.base).1
                        refine ⟨wants_some (d := 108) rfl rfl (by rw [h.size]; show 108 < 193; decide) e108, .slice (some ⟨g2, 0, none⟩) np cp, w, ?_, gb_refl _ _, rfl⟩
                        clear h
                        simp only [execOp, Act.eval, e111]
                        go_simp
                      refine ⟨Fg.value rfl fun ac w h => ?_, ?_⟩
                      · have e108 : ac.tmps.getD 108 undef = .bool true := h.dep 108 (by kernel_rfl)
                        have e10 : ac.tmps.getD 10 undef = .int .i64 (j : Int) := h.rest 10 (by kernel_rfl)
                        refine ⟨wants_some (d := 108) rfl rfl (by rw [h.size]; show 108 < 193; decide) e108, .int .i64 (j : Int), w, ?_, gb_refl _ _, rfl⟩
                        clear h
                        simp only [execOp, Act.eval, e10]
                        go_simp
                      refine ⟨Fg.value rfl fun ac w h => ?_, ?_⟩
                      · have e108 : ac.tmps.getD 108 undef = .bool true := h.dep 108 (by kernel_rfl)
                        have e112 : ac.tmps.getD 112 undef = .slice (some ⟨g2, 0, none⟩) np cp := h.dep 112 (by kernel_rfl)
                        have e113 : ac.tmps.getD 113 undef = .int .i64 (j : Int) := h.dep 113 (by kernel_rfl)
                        refine ⟨wants_some (d := 108) rfl rfl (by rw [h.size]; show 108 < 193; decide) e108, .pointer (some ⟨g2, j * 2, none⟩), w, ?_, gb_refl _ _, rfl⟩
                        clear h
                        simp only [execOp, Act.eval, e112, e113]
                        go_simp
                      refine ⟨Fg.value rfl fun ac w h => ?_, ?_⟩
                      · have e108 : ac.tmps.getD 108 undef = .bool true := h.dep 108 (by kernel_rfl)
                        have e114 : ac.tmps.getD 114 undef = .pointer (some ⟨g2, j * 2, none⟩) := h.dep 114 (by kernel_rfl)
                        have c4 := (HK.out h.base).2.2.2.2.1
                        have c5 := (HK.out h.base).2.2.2.2.2
                        refine ⟨wants_some (d := 108) rfl rfl (by rw [h.size]; show 108 < 193; decide) e108, .agg #[iV 0, iV (y : Int)], w, ?_, gb_refl _ _, rfl⟩
                        clear h
                        simp only [execOp, Act.eval, e114]
                        go_simp
                      refine ⟨Fg.value rfl fun ac w h => ?_, ?_⟩
                      · have e108 : ac.tmps.getD 108 undef = .bool true := h.dep 108 (by kernel_rfl)
                        have e9 : ac.tmps.getD 9 undef = .int .i64 (p : Int) := h.rest 9 (by kernel_rfl)
                        refine ⟨wants_some (d := 108) rfl rfl (by rw [h.size]; show 108 < 193; decide) e108, .int .i64 (p : Int), w, ?_, gb_refl _ _, rfl⟩
                        clear h
                        simp only [execOp, Act.eval, e9]
                        go_simp
                      refine ⟨Fg.value rfl fun ac w h => ?_, ?_⟩
                      · have e108 : ac.tmps.getD 108 undef = .bool true := h.dep 108 (by kernel_rfl)
                        have e10 : ac.tmps.getD 10 undef = .int .i64 (j : Int) := h.rest 10 (by kernel_rfl)
                        refine ⟨wants_some (d := 108) rfl rfl (by rw [h.size]; show 108 < 193; decide) e108, .int .i64 (j : Int), w, ?_, gb_refl _ _, rfl⟩
                        clear h
                        simp only [execOp, Act.eval, e10]
                        go_simp
                      refine ⟨Fg.call rfl fun ac w h => ?_, ?_⟩
                      · have e108 : ac.tmps.getD 108 undef = .bool true := h.dep 108 (by kernel_rfl)
                        have e116 : ac.tmps.getD 116 undef = .int .i64 (p : Int) := h.dep 116 (by kernel_rfl)
                        have x116 : ac.tmps[116]?.getD undef = .int .i64 (p : Int) := by simpa using e116
                        have e117 : ac.tmps.getD 117 undef = .int .i64 (j : Int) := h.dep 117 (by kernel_rfl)
                        have x117 : ac.tmps[117]?.getD undef = .int .i64 (j : Int) := by simpa using e117
                        have hb := h.base
                        refine ⟨wants_some (d := 108) rfl rfl (by rw [h.size]; show 108 < 193; decide) e108, 23, #[.int .i64 (p : Int), .int .i64 (j : Int)], ?_, ?_⟩
                        · clear h hb e116 e117
                          go_simp
                        · refine (HMB.out w).mono ?_
                          intro e w1 hp
                          obtain ⟨rfl, hg⟩ := hp
                          exact ⟨_, rfl, hg, rfl⟩
                      refine ⟨Fg.value rfl fun ac w h => ?_, ?_⟩
                      · have e108 : ac.tmps.getD 108 undef = .bool true := h.dep 108 (by kernel_rfl)
                        have e115 : ac.tmps.getD 115 undef = .agg #[iV 0, iV (y : Int)] := h.dep 115 (by kernel_rfl)
                        have e118 : ac.tmps.getD 118 undef = .agg #[iV 0, iV (y : Int)] := h.dep 118 (by kernel_rfl)
                        refine ⟨wants_some (d := 108) rfl rfl (by rw [h.size]; show 108 < 193; decide) e108, .bool true, w, ?_, gb_refl _ _, rfl⟩
                        clear h
                        simp only [execOp, Act.eval, e115, e118]
                        go_simp
                      refine ⟨Fg.value rfl fun ac w h => ?_, ?_⟩
                      · have e108 : ac.tmps.getD 108 undef = .bool true := h.dep 108 (by kernel_rfl)
                        have e119 : ac.tmps.getD 119 undef = .bool true := h.dep 119 (by kernel_rfl)
                        refine ⟨wants_some (d := 108) rfl rfl (by rw [h.size]; show 108 < 193; decide) e108, .bool false, w, ?_, gb_refl _ _, rfl⟩
                        clear h
                        simp only [execOp, Act.eval, e119]
                        go_simp
                      refine ⟨Fg.value rfl fun ac w h => ?_, ?_⟩
                      · have e100 : ac.tmps.getD 100 undef = .bool false := h.dep 100 (by kernel_rfl)
                        have e108 : ac.tmps.getD 108 undef = .bool true := h.dep 108 (by kernel_rfl)
                        have e120 : ac.tmps.getD 120 undef = .bool false := h.dep 120 (by kernel_rfl)
                        refine ⟨wants_some (d := 100) rfl rfl (by rw [h.size]; show 100 < 193; decide) e100, .bool false, w, ?_, gb_refl _ _, rfl⟩
                        clear h
                        simp only [execOp, Act.eval, e108, e120]
                        go_simp
                      refine ⟨Fg.value rfl fun ac w h => ?_, ?_⟩
                      · have e100 : ac.tmps.getD 100 undef = .bool false := h.dep 100 (by kernel_rfl)
                        have e121 : ac.tmps.getD 121 undef = .bool false := h.dep 121 (by kernel_rfl)
                        refine ⟨wants_none rfl, .bool false, w, ?_, gb_refl _ _, rfl⟩
                        clear h
                        simp only [execOp, Act.eval, e100, e121]
                        go_simp
                      trivial
                    · intro aq wq hB hsz hdf hrest hslots _
                      obtain ⟨u88, hs88⟩ : ∃ u, aq.tmps.getD 88 undef = u := ⟨_, rfl⟩
                      obtain ⟨u89, hs89⟩ : ∃ u, aq.tmps.getD 89 undef = u := ⟨_, rfl⟩
                      obtain ⟨u90, hs90⟩ : ∃ u, aq.tmps.getD 90 undef = u := ⟨_, rfl⟩
                      obtain ⟨u91, hs91⟩ : ∃ u, aq.tmps.getD 91 undef = u := ⟨_, rfl⟩
                      obtain ⟨u92, hs92⟩ : ∃ u, aq.tmps.getD 92 undef = u := ⟨_, rfl⟩
                      obtain ⟨u93, hs93⟩ : ∃ u, aq.tmps.getD 93 undef = u := ⟨_, rfl⟩
                      obtain ⟨u94, hs94⟩ : ∃ u, aq.tmps.getD 94 undef = u := ⟨_, rfl⟩
                      obtain ⟨u95, hs95⟩ : ∃ u, aq.tmps.getD 95 undef = u := ⟨_, rfl⟩
                      obtain ⟨u96, hs96⟩ : ∃ u, aq.tmps.getD 96 undef = u := ⟨_, rfl⟩
                      obtain ⟨u97, hs97⟩ : ∃ u, aq.tmps.getD 97 undef = u := ⟨_, rfl⟩
                      obtain ⟨u98, hs98⟩ : ∃ u, aq.tmps.getD 98 undef = u := ⟨_, rfl⟩
                      obtain ⟨u99, hs99⟩ : ∃ u, aq.tmps.getD 99 undef = u := ⟨_, rfl⟩
                      obtain ⟨u100, hs100⟩ : ∃ u, aq.tmps.getD 100 undef = u := ⟨_, rfl⟩
                      obtain ⟨u101, hs101⟩ : ∃ u, aq.tmps.getD 101 undef = u := ⟨_, rfl⟩
                      obtain ⟨u102, hs102⟩ : ∃ u, aq.tmps.getD 102 undef = u := ⟨_, rfl⟩
                      obtain ⟨u103, hs103⟩ : ∃ u, aq.tmps.getD 103 undef = u := ⟨_, rfl⟩
                      obtain ⟨u104, hs104⟩ : ∃ u, aq.tmps.getD 104 undef = u := ⟨_, rfl⟩
                      obtain ⟨u105, hs105⟩ : ∃ u, aq.tmps.getD 105 undef = u := ⟨_, rfl⟩
                      obtain ⟨u106, hs106⟩ : ∃ u, aq.tmps.getD 106 undef = u := ⟨_, rfl⟩
                      obtain ⟨u107, hs107⟩ : ∃ u, aq.tmps.getD 107 undef = u := ⟨_, rfl⟩
                      obtain ⟨u108, hs108⟩ : ∃ u, aq.tmps.getD 108 undef = u := ⟨_, rfl⟩
                      obtain ⟨u109, hs109⟩ : ∃ u, aq.tmps.getD 109 undef = u := ⟨_, rfl⟩
                      obtain ⟨u110, hs110⟩ : ∃ u, aq.tmps.getD 110 undef = u := ⟨_, rfl⟩
                      obtain ⟨u111, hs111⟩ : ∃ u, aq.tmps.getD 111 undef = u := ⟨_, rfl⟩
                      obtain ⟨u112, hs112⟩ : ∃ u, aq.tmps.getD 112 undef = u := ⟨_, rfl⟩
                      obtain ⟨u113, hs113⟩ : ∃ u, aq.tmps.getD 113 undef = u := ⟨_, rfl⟩
                      obtain ⟨u114, hs114⟩ : ∃ u, aq.tmps.getD 114 undef = u := ⟨_, rfl⟩
                      obtain ⟨u115, hs115⟩ : ∃ u, aq.tmps.getD 115 undef = u := ⟨_, rfl⟩
                      obtain ⟨u116, hs116⟩ : ∃ u, aq.tmps.getD 116 undef = u := ⟨_, rfl⟩
                      obtain ⟨u117, hs117⟩ : ∃ u, aq.tmps.getD 117 undef = u := ⟨_, rfl⟩
                      obtain ⟨u118, hs118⟩ : ∃ u, aq.tmps.getD 118 undef = u := ⟨_, rfl⟩
                      obtain ⟨u119, hs119⟩ : ∃ u, aq.tmps.getD 119 undef = u := ⟨_, rfl⟩
                      obtain ⟨u120, hs120⟩ : ∃ u, aq.tmps.getD 120 undef = u := ⟨_, rfl⟩
                      obtain ⟨u121, hs121⟩ : ∃ u, aq.tmps.getD 121 undef = u := ⟨_, rfl⟩
                      obtain rfl := Fg.frame_is (a := aq) (vs := [Value.slice (some ⟨LB, 0, none⟩) q C, undef, u2, Value.int .i64 (q : Int), u4, Value.slice (some ⟨GB, 0, none⟩) q q, Value.int .i64 (q : Int), u7, u8, Value.int .i64 (p : Int), Value.int .i64 (j : Int), undef, undef, undef, undef, undef, Value.int .i64 (q : Int), Value.slice (some ⟨LB, 0, none⟩) q C, Value.int .i64 (q : Int), Value.bool false, u20, u21, u22, u23, u24, u25, u26, u27, u28, u29, u30, u31, u32, u33, u34, u35, u36, u37, u38, u39, Value.slice (some ⟨LB, 0, none⟩) q C, Value.int .i64 (q : Int), Value.slice (some ⟨GB, 0, none⟩) q q, Value.int .i64 (q : Int), Value.slice (some ⟨LB, 0, none⟩) q C, Value.int .i64 (q : Int), Value.bool false, u47, u48, u49, u50, u51, u52, u53, u54, u55, u56, u57, u58, u59, u60, u61, u62, u63, u64, u65, u66, u67, u68, u69, u70, u71, u72, Value.int .i64 (p : Int), Value.slice (some ⟨LB, 0, none⟩) q C, Value.int .i64 (q : Int), Value.bool true, u77, u78, Value.int .i64 (j : Int), Value.slice (some ⟨GB, 0, none⟩) q q, Value.int .i64 (p : Int), Value.pointer (some ⟨GB, p, none⟩), Value.slice (some ⟨g, 0, none⟩) (np + 64) c, Value.int .i64 ((np : Int) + 64), Value.bool true, u86, u87, u88, u89, u90, u91, u92, u93, u94, u95, u96, u97, u98, u99, u100, u101, u102, u103, u104, u105, u106, u107, u108, u109, u110, u111, u112, u113, u114, u115, u116, u117, u118, u119, u120, u121, Value.bool false, undef, undef, undef, undef, undef, undef, undef, undef, undef, undef, undef, undef, undef, undef, undef, undef, undef, undef, undef, undef, undef, undef, undef, undef, undef, undef, undef, undef, undef, undef, undef, undef, undef, undef, undef, undef, undef, undef, undef, undef, undef, undef, undef, undef, undef, undef, undef, undef, undef, undef, undef, undef, undef, undef, undef, undef, undef, undef, undef, undef, undef, undef, undef, undef, undef, undef, undef, undef, undef, undef]) hsz ⟨hrest 0 (by kernel_rfl), hrest 1 (by kernel_rfl), hrest 2 (by kernel_rfl), hrest 3 (by kernel_rfl), hrest 4 (by kernel_rfl), hrest 5 (by kernel_rfl), hrest 6 (by kernel_rfl), hrest 7 (by kernel_rfl), hrest 8 (by kernel_rfl), hrest 9 (by kernel_rfl), hrest 10 (by kernel_rfl), hrest 11 (by kernel_rfl), hrest 12 (by kernel_rfl), hrest 13 (by kernel_rfl), hrest 14 (by kernel_rfl), hrest 15 (by kernel_rfl), hrest 16 (by kernel_rfl), hrest 17 (by kernel_rfl), hrest 18 (by kernel_rfl), hrest 19 (by kernel_rfl), hrest 20 (by kernel_rfl), hrest 21 (by kernel_rfl), hrest 22 (by kernel_rfl), hrest 23 (by kernel_rfl), hrest 24 (by kernel_rfl), hrest 25 (by kernel_rfl), hrest 26 (by kernel_rfl), hrest 27 (by kernel_rfl), hrest 28 (by kernel_rfl), hrest 29 (by kernel_rfl), hrest 30 (by kernel_rfl), hrest 31 (by kernel_rfl), hrest 32 (by kernel_rfl), hrest 33 (by kernel_rfl), hrest 34 (by kernel_rfl), hrest 35 (by kernel_rfl), hrest 36 (by kernel_rfl), hrest 37 (by kernel_rfl), hrest 38 (by kernel_rfl), hrest 39 (by kernel_rfl), hrest 40 (by kernel_rfl), hrest 41 (by kernel_rfl), hrest 42 (by kernel_rfl), hrest 43 (by kernel_rfl), hrest 44 (by kernel_rfl), hrest 45 (by kernel_rfl), hrest 46 (by kernel_rfl), hrest 47 (by kernel_rfl), hrest 48 (by kernel_rfl), hrest 49 (by kernel_rfl), hrest 50 (by kernel_rfl), hrest 51 (by kernel_rfl), hrest 52 (by kernel_rfl), hrest 53 (by kernel_rfl), hrest 54 (by kernel_rfl), hrest 55 (by kernel_rfl), hrest 56 (by kernel_rfl), hrest 57 (by kernel_rfl), hrest 58 (by kernel_rfl), hrest 59 (by kernel_rfl), hrest 60 (by kernel_rfl), hrest 61 (by kernel_rfl), hrest 62 (by kernel_rfl), hrest 63 (by kernel_rfl), hrest 64 (by kernel_rfl), hrest 65 (by kernel_rfl), hrest 66 (by kernel_rfl), hrest 67 (by kernel_rfl), hrest 68 (by kernel_rfl), hrest 69 (by kernel_rfl), hrest 70 (by kernel_rfl), hrest 71 (by kernel_rfl), hrest 72 (by kernel_rfl), hrest 73 (by kernel_rfl), hrest 74 (by kernel_rfl), hrest 75 (by kernel_rfl), hrest 76 (by kernel_rfl), hrest 77 (by kernel_rfl), hrest 78 (by kernel_rfl), hrest 79 (by kernel_rfl), hrest 80 (by kernel_rfl), hrest 81 (by kernel_rfl), hrest 82 (by kernel_rfl), hrest 83 (by kernel_rfl), hrest 84 (by kernel_rfl), hrest 85 (by kernel_rfl), hrest 86 (by kernel_rfl), hrest 87 (by kernel_rfl), hs88, hs89, hs90, hs91, hs92, hs93, hs94, hs95, hs96, hs97, hs98, hs99, hs100, hs101, hs102, hs103, hs104, hs105, hs106, hs107, hs108, hs109, hs110, hs111, hs112, hs113, hs114, hs115, hs116, hs117, hs118, hs119, hs120, hs121, (show aq.tmps.getD 122 undef = Value.bool false from hslots 122 (by kernel_rfl)), hrest 123 (by kernel_rfl), hrest 124 (by kernel_rfl), hrest 125 (by kernel_rfl), hrest 126 (by kernel_rfl), hrest 127 (by kernel_rfl), hrest 128 (by kernel_rfl), hrest 129 (by kernel_rfl), hrest 130 (by kernel_rfl), hrest 131 (by kernel_rfl), hrest 132 (by kernel_rfl), hrest 133 (by kernel_rfl), hrest 134 (by kernel_rfl), hrest 135 (by kernel_rfl), hrest 136 (by kernel_rfl), hrest 137 (by kernel_rfl), hrest 138 (by kernel_rfl), hrest 139 (by kernel_rfl), hrest 140 (by kernel_rfl), hrest 141 (by kernel_rfl), hrest 142 (by kernel_rfl), hrest 143 (by kernel_rfl), hrest 144 (by kernel_rfl), hrest 145 (by kernel_rfl), hrest 146 (by kernel_rfl), hrest 147 (by kernel_rfl), hrest 148 (by kernel_rfl), hrest 149 (by kernel_rfl), hrest 150 (by kernel_rfl), hrest 151 (by kernel_rfl), hrest 152 (by kernel_rfl), hrest 153 (by kernel_rfl), hrest 154 (by kernel_rfl), hrest 155 (by kernel_rfl), hrest 156 (by kernel_rfl), hrest 157 (by kernel_rfl), hrest 158 (by kernel_rfl), hrest 159 (by kernel_rfl), hrest 160 (by kernel_rfl), hrest 161 (by kernel_rfl), hrest 162 (by kernel_rfl), hrest 163 (by kernel_rfl), hrest 164 (by kernel_rfl), hrest 165 (by kernel_rfl), hrest 166 (by kernel_rfl), hrest 167 (by kernel_rfl), hrest 168 (by kernel_rfl), hrest 169 (by kernel_rfl), hrest 170 (by kernel_rfl), hrest 171 (by kernel_rfl), hrest 172 (by kernel_rfl), hrest 173 (by kernel_rfl), hrest 174 (by kernel_rfl), hrest 175 (by kernel_rfl), hrest 176 (by kernel_rfl), hrest 177 (by kernel_rfl), hrest 178 (by kernel_rfl), hrest 179 (by kernel_rfl), hrest 180 (by kernel_rfl), hrest 181 (by kernel_rfl), hrest 182 (by kernel_rfl), hrest 183 (by kernel_rfl), hrest 184 (by kernel_rfl), hrest 185 (by kernel_rfl), hrest 186 (by kernel_rfl), hrest 187 (by kernel_rfl), hrest 188 (by kernel_rfl), hrest 189 (by kernel_rfl), hrest 190 (by kernel_rfl), hrest 191 (by kernel_rfl), hrest 192 (by kernel_rfl), trivial⟩ hdf
                      have HB0 := Lib.hid hB
                      clear hB hsz hdf hrest hslots hs88 hs89 hs90 hs91 hs92 hs93 hs94 hs95 hs96 hs97 hs98 hs99 hs100 hs101 hs102 hs103 hs104 hs105 hs106 hs107 hs108 hs109 hs110 hs111 hs112 hs113 hs114 hs115 hs116 hs117 hs118 hs119 hs120 hs121
                      go_wp2_with fail
                      go_roundw
                      case rel => exact ⟨j + 1, hj1, by go_num, HR.out.stay HB0.out⟩
                      case measure => simp [intOf]; omega
                  · generalize f p j = y at *
                    generalize V.n p = np at *
                    generalize V.A p = ap at *
                    generalize V.C p = cp at *
                    clear hvs
                    have i2 : ¬ (j : Int) < (np : Int) := by omega
                    have i3 : (j : Int) < (np : Int) + 64 := by omega
                    have HK : Hid (∀ {w' : World}, wr.grownBy w' none → w'.cell? ⟨LB, p, none⟩ = some (.slice ap np cp) ∧ w'.cell? ⟨GB, p, none⟩ = some (.slice (some ⟨g, 0, none⟩) (np + 64) c) ∧ w'.cell? ⟨g, j * 2, none⟩ = some (iV 0) ∧ w'.cell? ⟨g, j * 2 + 1, none⟩ = some (iV y)) := fun {w'} hg =>
                      ⟨gbk hg kc, gbk hg kg, gbk hg kj2, gbk hg kj3⟩
                    have he : ∀ w, (Op.equalIn 10000 25 (.agg #[.int .i64 0, .int .i64 (y : Int)]) (.agg #[.int .i64 0, .int .i64 (y : Int)])).run Tryz.prog w = .ok true w := fun w => by rw [eq_dot]; simp
                    go_wp2_with fail
                    refine wp_region_flow3 (Fg.its [.any, .any, .any, .any, .any, .any, .any, .any, .any, .any, .any, .any, .any, .any, .any, .any, .any, .any, .any, .any, .any, .any, .any, .any, .any, .any, .any, .any, .any, .any, .any, .any, .any, .any, .any, .any, .any, .any, .any, .any, .any, .any, .any, .any, .any, .any, .any, .any, .any, .any, .any, .any, .any, .any, .any, .any, .any, .any, .any, .any, .any, .any, .any, .any, .any, .any, .any, .any, .any, .any, .any, .any, .any, .any, .any, .any, .any, .any, .any, .any, .any, .any, .any, .any, .any, .any, .any, .any, .val (.slice (some ⟨GB, 0, none⟩) q q), .val (.int .i64 (p : Int)), .val (.pointer (some ⟨GB, p, none⟩)), .val (.slice (some ⟨g, 0, none⟩) (np + 64) c), .val (.int .i64 (j : Int)), .val (.pointer (some ⟨g, j * 2, none⟩)), .val (.agg #[iV 0, iV (y : Int)]), .val (.int .i64 (p : Int)), .val (.int .i64 (j : Int)), .val (.agg #[iV 0, iV (y : Int)]), .val (.bool true), .val (.bool false), .val (.bool false), .val (.int .i64 (j : Int)), .val (.slice (some ⟨LB, 0, none⟩) q C), .val (.int .i64 (p : Int)), .val (.pointer (some ⟨LB, p, none⟩)), .val (.slice ap np cp), .val (.int .i64 np), .val (.bool false), .val (.bool false), .val undef, .val undef, .val undef, .val undef, .val undef, .val undef, .val undef, .val undef, .val undef, .val undef, .val undef, .val undef, .val (.bool false), .val (.bool false)]) (fun _ => 0) (fun _ _ _ => True) (fun w => World.grownBy wr w none) [] (by kernel_rfl) (by kernel_rfl) (by kernel_rfl) (gb_drew (gb_refl _ _)) (Fg.ptrs_nil _ _) (Fg.no_store (by kernel_rfl)) ?_ ?_
                    · refine ⟨Fg.value rfl fun ac w h => ?_, ?_⟩
                      · have e5 : ac.tmps.getD 5 undef = .slice (some ⟨GB, 0, none⟩) q q := h.rest 5 (by kernel_rfl)
                        refine ⟨wants_none rfl, .slice (some ⟨GB, 0, none⟩) q q, w, ?_, gb_refl _ _, rfl⟩
                        clear h
                        simp only [execOp, Act.eval, e5]
                        go_simp
                      refine ⟨Fg.value rfl fun ac w h => ?_, ?_⟩
                      · have e9 : ac.tmps.getD 9 undef = .int .i64 (p : Int) := h.rest 9 (by kernel_rfl)
                        refine ⟨wants_none rfl, .int .i64 (p : Int), w, ?_, gb_refl _ _, rfl⟩
                        clear h
                        simp only [execOp, Act.eval, e9]
                        go_simp
                      refine ⟨Fg.value rfl fun ac w h => ?_, ?_⟩
                      · have e88 : ac.tmps.getD 88 undef = .slice (some ⟨GB, 0, none⟩) q q := h.dep 88 (by kernel_rfl)
                        have e89 : ac.tmps.getD 89 undef = .int .i64 (p : Int) := h.dep 89 (by kernel_rfl)
                        refine ⟨wants_none rfl, .pointer (some ⟨GB, p, none⟩), w, ?_, gb_refl _ _, rfl⟩
                        clear h
                        simp only [execOp, Act.eval, e88, e89]
                        go_simp
                      refine ⟨Fg.value rfl fun ac w h => ?_, ?_⟩
                      · have e90 : ac.tmps.getD 90 undef = .pointer (some ⟨GB, p, none⟩) := h.dep 90 (by kernel_rfl)
                        have c1 := (HK.out h.base).2.1
                        refine ⟨wants_none rfl, .slice (some ⟨g, 0, none⟩) (np + 64) c, w, ?_, gb_refl _ _, rfl⟩
                        clear h
                        simp only [execOp, Act.eval, e90]
                        go_simp
                      refine ⟨Fg.value rfl fun ac w h => ?_, ?_⟩
                      · have e10 : ac.tmps.getD 10 undef = .int .i64 (j : Int) := h.rest 10 (by kernel_rfl)
                        refine ⟨wants_none rfl, .int .i64 (j : Int), w, ?_, gb_refl _ _, rfl⟩
                        clear h
                        simp only [execOp, Act.eval, e10]
                        go_simp
                      refine ⟨Fg.value rfl fun ac w h => ?_, ?_⟩
                      · have e91 : ac.tmps.getD 91 undef = .slice (some ⟨g, 0, none⟩) (np + 64) c := h.dep 91 (by kernel_rfl)
                        have e92 : ac.tmps.getD 92 undef = .int .i64 (j : Int) := h.dep 92 (by kernel_rfl)
                        refine ⟨wants_none rfl, .pointer (some ⟨g, j * 2, none⟩), w, ?_, gb_refl _ _, rfl⟩
                        clear h
                        simp only [execOp, Act.eval, e91, e92]
                        go_simp
                      refine ⟨Fg.value rfl fun ac w h => ?_, ?_⟩
                      · have e93 : ac.tmps.getD 93 undef = .pointer (some ⟨g, j * 2, none⟩) := h.dep 93 (by kernel_rfl)
                        have c2 := (HK.out h.base).2.2.1
                        have c3 := (HK.out h.base).2.2.2
                        refine ⟨wants_none rfl, .agg #[iV 0, iV (y : Int)], w, ?_, gb_refl _ _, rfl⟩
                        clear h
                        simp only [execOp, Act.eval, e93]
                        go_simp
                      refine ⟨Fg.value rfl fun ac w h => ?_, ?_⟩
                      · have e9 : ac.tmps.getD 9 undef = .int .i64 (p : Int) := h.rest 9 (by kernel_rfl)
                        refine ⟨wants_none rfl, .int .i64 (p : Int), w, ?_, gb_refl _ _, rfl⟩
                        clear h
                        simp only [execOp, Act.eval, e9]
                        go_simp
                      refine ⟨Fg.value rfl fun ac w h => ?_, ?_⟩
                      · have e10 : ac.tmps.getD 10 undef = .int .i64 (j : Int) := h.rest 10 (by kernel_rfl)
                        refine ⟨wants_none rfl, .int .i64 (j : Int), w, ?_, gb_refl _ _, rfl⟩
                        clear h
                        simp only [execOp, Act.eval, e10]
                        go_simp
                      refine ⟨Fg.call rfl fun ac w h => ?_, ?_⟩
                      · have e95 : ac.tmps.getD 95 undef = .int .i64 (p : Int) := h.dep 95 (by kernel_rfl)
                        have x95 : ac.tmps[95]?.getD undef = .int .i64 (p : Int) := by simpa using e95
                        have e96 : ac.tmps.getD 96 undef = .int .i64 (j : Int) := h.dep 96 (by kernel_rfl)
                        have x96 : ac.tmps[96]?.getD undef = .int .i64 (j : Int) := by simpa using e96
                        have hb := h.base
                        refine ⟨wants_none rfl, 23, #[.int .i64 (p : Int), .int .i64 (j : Int)], ?_, ?_⟩
                        · clear h hb e95 e96
                          go_simp
                        · refine (HMB.out w).mono ?_
                          intro e w1 hp
                          obtain ⟨rfl, hg⟩ := hp
                          exact ⟨_, rfl, hg, rfl⟩
                      refine ⟨Fg.value rfl fun ac w h => ?_, ?_⟩
                      · have e94 : ac.tmps.getD 94 undef = .agg #[iV 0, iV (y : Int)] := h.dep 94 (by kernel_rfl)
                        have e97 : ac.tmps.getD 97 undef = .agg #[iV 0, iV (y : Int)] := h.dep 97 (by kernel_rfl)
                        refine ⟨wants_none rfl, .bool true, w, ?_, gb_refl _ _, rfl⟩
                        clear h
                        simp only [execOp, Act.eval, e94, e97]
                        go_simp
                      refine ⟨Fg.value rfl fun ac w h => ?_, ?_⟩
                      · have e98 : ac.tmps.getD 98 undef = .bool true := h.dep 98 (by kernel_rfl)
                        refine ⟨wants_none rfl, .bool false, w, ?_, gb_refl _ _, rfl⟩
                        clear h
                        simp only [execOp, Act.eval, e98]
                        go_simp
                      refine ⟨Fg.value rfl fun ac w h => ?_, ?_⟩
                      · have e99 : ac.tmps.getD 99 undef = .bool false := h.dep 99 (by kernel_rfl)
                        refine ⟨wants_none rfl, .bool false, w, ?_, gb_refl _ _, rfl⟩
                        clear h
                        simp only [execOp, Act.eval, e99]
                        go_simp
                      refine ⟨Fg.value rfl fun ac w h => ?_, ?_⟩
                      · have e100 : ac.tmps.getD 100 undef = .bool false := h.dep 100 (by kernel_rfl)
                        have e10 : ac.tmps.getD 10 undef = .int .i64 (j : Int) := h.rest 10 (by kernel_rfl)
                        refine ⟨wants_some (d := 100) rfl rfl (by rw [h.size]; show 100 < 193; decide) e100, .int .i64 (j : Int), w, ?_, gb_refl _ _, rfl⟩
                        clear h
                        simp only [execOp, Act.eval, e10]
                        go_simp
                      refine ⟨Fg.value rfl fun ac w h => ?_, ?_⟩
                      · have e100 : ac.tmps.getD 100 undef = .bool false := h.dep 100 (by kernel_rfl)
                        have e0 : ac.tmps.getD 0 undef = .slice (some ⟨LB, 0, none⟩) q C := h.rest 0 (by kernel_rfl)
                        refine ⟨wants_some (d := 100) rfl rfl (by rw [h.size]; show 100 < 193; decide) e100, .slice (some ⟨LB, 0, none⟩) q C, w, ?_, gb_refl _ _, rfl⟩
                        clear h
                        simp only [execOp, Act.eval, e0]
                        go_simp
                      refine ⟨Fg.value rfl fun ac w h => ?_, ?_⟩
                      · have e100 : ac.tmps.getD 100 undef = .bool false := h.dep 100 (by kernel_rfl)
                        have e9 : ac.tmps.getD 9 undef = .int .i64 (p : Int) := h.rest 9 (by kernel_rfl)
                        refine ⟨wants_some (d := 100) rfl rfl (by rw [h.size]; show 100 < 193; decide) e100, .int .i64 (p : Int), w, ?_, gb_refl _ _, rfl⟩
                        clear h
                        simp only [execOp, Act.eval, e9]
                        go_simp
                      refine ⟨Fg.value rfl fun ac w h => ?_, ?_⟩
                      · have e100 : ac.tmps.getD 100 undef = .bool false := h.dep 100 (by kernel_rfl)
                        have e102 : ac.tmps.getD 102 undef = .slice (some ⟨LB, 0, none⟩) q C := h.dep 102 (by kernel_rfl)
                        have e103 : ac.tmps.getD 103 undef = .int .i64 (p : Int) := h.dep 103 (by kernel_rfl)
                        refine ⟨wants_some (d := 100) rfl rfl (by rw [h.size]; show 100 < 193; decide) e100, .pointer (some ⟨LB, p, none⟩), w, ?_, gb_refl _ _, rfl⟩
                        clear h
                        simp only [execOp, Act.eval, e102, e103]
                        go_simp
                      refine ⟨Fg.value rfl fun ac w h => ?_, ?_⟩
                      · have e100 : ac.tmps.getD 100 undef = .bool false := h.dep 100 (by kernel_rfl)
                        have e104 : ac.tmps.getD 104 undef = .pointer (some ⟨LB, p, none⟩) := h.dep 104 (by kernel_rfl)
                        have c0 := (HK.out h.base).1
                        refine ⟨wants_some (d := 100) rfl rfl (by rw [h.size]; show 100 < 193; decide) e100, .slice ap np cp, w, ?_, gb_refl _ _, rfl⟩
                        clear h
                        simp only [execOp, Act.eval, e104]
                        go_simp
                      refine ⟨Fg.value rfl fun ac w h => ?_, ?_⟩
                      · have e100 : ac.tmps.getD 100 undef = .bool false := h.dep 100 (by kernel_rfl)
                        have e105 : ac.tmps.getD 105 undef = .slice ap np cp := h.dep 105 (by kernel_rfl)
                        have x105 : ac.tmps[105]?.getD undef = .slice ap np cp := by simpa using e105
                        refine ⟨wants_some (d := 100) rfl rfl (by rw [h.size]; show 100 < 193; decide) e100, .int .i64 np, w, ?_, gb_refl _ _, rfl⟩
                        clear h e105
                        go_simp
                      refine ⟨Fg.value rfl fun ac w h => ?_, ?_⟩
                      · have e100 : ac.tmps.getD 100 undef = .bool false := h.dep 100 (by kernel_rfl)
                        have e101 : ac.tmps.getD 101 undef = .int .i64 (j : Int) := h.dep 101 (by kernel_rfl)
                        have e106 : ac.tmps.getD 106 undef = .int .i64 np := h.dep 106 (by kernel_rfl)
                        refine ⟨wants_some (d := 100) rfl rfl (by rw [h.size]; show 100 < 193; decide) e100, .bool false, w, ?_, gb_refl _ _, rfl⟩
                        clear h
                        simp only [execOp, Act.eval, e101, e106]
                        go_simp
                      refine ⟨Fg.value rfl fun ac w h => ?_, ?_⟩
                      · have e100 : ac.tmps.getD 100 undef = .bool false := h.dep 100 (by kernel_rfl)
                        have e107 : ac.tmps.getD 107 undef = .bool false := h.dep 107 (by kernel_rfl)
                        refine ⟨wants_some (d := 100) rfl rfl (by rw [h.size]; show 100 < 193; decide) e100, .bool false, w, ?_, gb_refl _ _, rfl⟩
                        clear h
                        simp only [execOp, Act.eval, e107]
                        go_simp
                      refine ⟨Fg.skipped rfl (fun _ => rfl) fun ac w h => ?_, ?_⟩
                      · have e108 : ac.tmps.getD 108 undef = .bool false := h.dep 108 (by kernel_rfl)
                        exact not_wants (d := 108) rfl rfl (by rw [h.size]; show 108 < 193; decide) e108 (by decide)
                      refine ⟨Fg.skipped rfl (fun _ => rfl) fun ac w h => ?_, ?_⟩
                      · have e108 : ac.tmps.getD 108 undef = .bool false := h.dep 108 (by kernel_rfl)
                        exact not_wants (d := 108) rfl rfl (by rw [h.size]; show 108 < 193; decide) e108 (by decide)
                      refine ⟨Fg.skipped rfl (fun _ => rfl) fun ac w h => ?_, ?_⟩
                      · have e108 : ac.tmps.getD 108 undef = .bool false := h.dep 108 (by kernel_rfl)
                        exact not_wants (d := 108) rfl rfl (by rw [h.size]; show 108 < 193; decide) e108 (by decide)
                      refine ⟨Fg.skipped rfl (fun _ => rfl) fun ac w h => ?_, ?_⟩
                      · have e108 : ac.tmps.getD 108 undef = .bool false := h.dep 108 (by kernel_rfl)
                        exact not_wants (d := 108) rfl rfl (by rw [h.size]; show 108 < 193; decide) e108 (by decide)
                      refine ⟨Fg.skipped rfl (fun _ => rfl) fun ac w h => ?_, ?_⟩
                      · have e108 : ac.tmps.getD 108 undef = .bool false := h.dep 108 (by kernel_rfl)
                        exact not_wants (d := 108) rfl rfl (by rw [h.size]; show 108 < 193; decide) e108 (by decide)
                      refine ⟨Fg.skipped rfl (fun _ => rfl) fun ac w h => ?_, ?_⟩
                      · have e108 : ac.tmps.getD 108 undef = .bool false := h.dep 108 (by kernel_rfl)
                        exact not_wants (d := 108) rfl rfl (by rw [h.size]; show 108 < 193; decide) e108 (by decide)
                      refine ⟨Fg.skipped rfl (fun _ => rfl) fun ac w h => ?_, ?_⟩
                      · have e108 : ac.tmps.getD 108 undef = .bool false := h.dep 108 (by kernel_rfl)
                        exact not_wants (d := 108) rfl rfl (by rw [h.size]; show 108 < 193; decide) e108 (by decide)
                      refine ⟨Fg.skipped rfl (fun _ => rfl) fun ac w h => ?_, ?_⟩
                      · have e108 : ac.tmps.getD 108 undef = .bool false := h.dep 108 (by kernel_rfl)
                        exact not_wants (d := 108) rfl rfl (by rw [h.size]; show 108 < 193; decide) e108 (by decide)
                      refine ⟨Fg.skipped rfl (fun _ => rfl) fun ac w h => ?_, ?_⟩
                      · have e108 : ac.tmps.getD 108 undef = .bool false := h.dep 108 (by kernel_rfl)
                        exact not_wants (d := 108) rfl rfl (by rw [h.size]; show 108 < 193; decide) e108 (by decide)
                      refine ⟨Fg.skipped rfl (fun _ => rfl) fun ac w h => ?_, ?_⟩
                      · have e108 : ac.tmps.getD 108 undef = .bool false := h.dep 108 (by kernel_rfl)
                        exact not_wants (d := 108) rfl rfl (by rw [h.size]; show 108 < 193; decide) e108 (by decide)
                      refine ⟨Fg.skipped rfl (fun _ => rfl) fun ac w h => ?_, ?_⟩
                      · have e108 : ac.tmps.getD 108 undef = .bool false := h.dep 108 (by kernel_rfl)
                        exact not_wants (d := 108) rfl rfl (by rw [h.size]; show 108 < 193; decide) e108 (by decide)
                      refine ⟨Fg.skipped rfl (fun _ => rfl) fun ac w h => ?_, ?_⟩
                      · have e108 : ac.tmps.getD 108 undef = .bool false := h.dep 108 (by kernel_rfl)
                        exact not_wants (d := 108) rfl rfl (by rw [h.size]; show 108 < 193; decide) e108 (by decide)
                      refine ⟨Fg.value rfl fun ac w h => ?_, ?_⟩
                      · have e100 : ac.tmps.getD 100 undef = .bool false := h.dep 100 (by kernel_rfl)
                        have e108 : ac.tmps.getD 108 undef = .bool false := h.dep 108 (by kernel_rfl)
                        refine ⟨wants_some (d := 100) rfl rfl (by rw [h.size]; show 100 < 193; decide) e100, .bool false, w, ?_, gb_refl _ _, rfl⟩
                        clear h
                        simp only [execOp, Act.eval, e108]
                        go_simp
                      refine ⟨Fg.value rfl fun ac w h => ?_, ?_⟩
                      · have e100 : ac.tmps.getD 100 undef = .bool false := h.dep 100 (by kernel_rfl)
                        have e121 : ac.tmps.getD 121 undef = .bool false := h.dep 121 (by kernel_rfl)
                        refine ⟨wants_none rfl, .bool false, w, ?_, gb_refl _ _, rfl⟩
                        clear h
                        simp only [execOp, Act.eval, e100, e121]
                        go_simp
                      trivial
                    · intro aq wq hB hsz hdf hrest hslots _
                      obtain ⟨u88, hs88⟩ : ∃ u, aq.tmps.getD 88 undef = u := ⟨_, rfl⟩
                      obtain ⟨u89, hs89⟩ : ∃ u, aq.tmps.getD 89 undef = u := ⟨_, rfl⟩
                      obtain ⟨u90, hs90⟩ : ∃ u, aq.tmps.getD 90 undef = u := ⟨_, rfl⟩
                      obtain ⟨u91, hs91⟩ : ∃ u, aq.tmps.getD 91 undef = u := ⟨_, rfl⟩
                      obtain ⟨u92, hs92⟩ : ∃ u, aq.tmps.getD 92 undef = u := ⟨_, rfl⟩
                      obtain ⟨u93, hs93⟩ : ∃ u, aq.tmps.getD 93 undef = u := ⟨_, rfl⟩
                      obtain ⟨u94, hs94⟩ : ∃ u, aq.tmps.getD 94 undef = u := ⟨_, rfl⟩
                      obtain ⟨u95, hs95⟩ : ∃ u, aq.tmps.getD 95 undef = u := ⟨_, rfl⟩
                      obtain ⟨u96, hs96⟩ : ∃ u, aq.tmps.getD 96 undef = u := ⟨_, rfl⟩
                      obtain ⟨u97, hs97⟩ : ∃ u, aq.tmps.getD 97 undef = u := ⟨_, rfl⟩
                      obtain ⟨u98, hs98⟩ : ∃ u, aq.tmps.getD 98 undef = u := ⟨_, rfl⟩
                      obtain ⟨u99, hs99⟩ : ∃ u, aq.tmps.getD 99 undef = u := ⟨_, rfl⟩
                      obtain ⟨u100, hs100⟩ : ∃ u, aq.tmps.getD 100 undef = u := ⟨_, rfl⟩
                      obtain ⟨u101, hs101⟩ : ∃ u, aq.tmps.getD 101 undef = u := ⟨_, rfl⟩
                      obtain ⟨u102, hs102⟩ : ∃ u, aq.tmps.getD 102 undef = u := ⟨_, rfl⟩
                      obtain ⟨u103, hs103⟩ : ∃ u, aq.tmps.getD 103 undef = u := ⟨_, rfl⟩
                      obtain ⟨u104, hs104⟩ : ∃ u, aq.tmps.getD 104 undef = u := ⟨_, rfl⟩
                      obtain ⟨u105, hs105⟩ : ∃ u, aq.tmps.getD 105 undef = u := ⟨_, rfl⟩
                      obtain ⟨u106, hs106⟩ : ∃ u, aq.tmps.getD 106 undef = u := ⟨_, rfl⟩
                      obtain ⟨u107, hs107⟩ : ∃ u, aq.tmps.getD 107 undef = u := ⟨_, rfl⟩
                      obtain ⟨u108, hs108⟩ : ∃ u, aq.tmps.getD 108 undef = u := ⟨_, rfl⟩
                      obtain ⟨u109, hs109⟩ : ∃ u, aq.tmps.getD 109 undef = u := ⟨_, rfl⟩
                      obtain ⟨u110, hs110⟩ : ∃ u, aq.tmps.getD 110 undef = u := ⟨_, rfl⟩
                      obtain ⟨u111, hs111⟩ : ∃ u, aq.tmps.getD 111 undef = u := ⟨_, rfl⟩
                      obtain ⟨u112, hs112⟩ : ∃ u, aq.tmps.getD 112 undef = u := ⟨_, rfl⟩
                      obtain ⟨u113, hs113⟩ : ∃ u, aq.tmps.getD 113 undef = u := ⟨_, rfl⟩
                      obtain ⟨u114, hs114⟩ : ∃ u, aq.tmps.getD 114 undef = u := ⟨_, rfl⟩
                      obtain ⟨u115, hs115⟩ : ∃ u, aq.tmps.getD 115 undef = u := ⟨_, rfl⟩
                      obtain ⟨u116, hs116⟩ : ∃ u, aq.tmps.getD 116 undef = u := ⟨_, rfl⟩
                      obtain ⟨u117, hs117⟩ : ∃ u, aq.tmps.getD 117 undef = u := ⟨_, rfl⟩
                      obtain ⟨u118, hs118⟩ : ∃ u, aq.tmps.getD 118 undef = u := ⟨_, rfl⟩
                      obtain ⟨u119, hs119⟩ : ∃ u, aq.tmps.getD 119 undef = u := ⟨_, rfl⟩
                      obtain ⟨u120, hs120⟩ : ∃ u, aq.tmps.getD 120 undef = u := ⟨_, rfl⟩
                      obtain ⟨u121, hs121⟩ : ∃ u, aq.tmps.getD 121 undef = u := ⟨_, rfl⟩
                      obtain rfl := Fg.frame_is (a := aq) (vs := [Value.slice (some ⟨LB, 0, none⟩) q C, undef, u2, Value.int .i64 (q : Int), u4, Value.slice (some ⟨GB, 0, none⟩) q q, Value.int .i64 (q : Int), u7, u8, Value.int .i64 (p : Int), Value.int .i64 (j : Int), undef, undef, undef, undef, undef, Value.int .i64 (q : Int), Value.slice (some ⟨LB, 0, none⟩) q C, Value.int .i64 (q : Int), Value.bool false, u20, u21, u22, u23, u24, u25, u26, u27, u28, u29, u30, u31, u32, u33, u34, u35, u36, u37, u38, u39, Value.slice (some ⟨LB, 0, none⟩) q C, Value.int .i64 (q : Int), Value.slice (some ⟨GB, 0, none⟩) q q, Value.int .i64 (q : Int), Value.slice (some ⟨LB, 0, none⟩) q C, Value.int .i64 (q : Int), Value.bool false, u47, u48, u49, u50, u51, u52, u53, u54, u55, u56, u57, u58, u59, u60, u61, u62, u63, u64, u65, u66, u67, u68, u69, u70, u71, u72, Value.int .i64 (p : Int), Value.slice (some ⟨LB, 0, none⟩) q C, Value.int .i64 (q : Int), Value.bool true, u77, u78, Value.int .i64 (j : Int), Value.slice (some ⟨GB, 0, none⟩) q q, Value.int .i64 (p : Int), Value.pointer (some ⟨GB, p, none⟩), Value.slice (some ⟨g, 0, none⟩) (np + 64) c, Value.int .i64 ((np : Int) + 64), Value.bool true, u86, u87, u88, u89, u90, u91, u92, u93, u94, u95, u96, u97, u98, u99, u100, u101, u102, u103, u104, u105, u106, u107, u108, u109, u110, u111, u112, u113, u114, u115, u116, u117, u118, u119, u120, u121, Value.bool false, undef, undef, undef, undef, undef, undef, undef, undef, undef, undef, undef, undef, undef, undef, undef, undef, undef, undef, undef, undef, undef, undef, undef, undef, undef, undef, undef, undef, undef, undef, undef, undef, undef, undef, undef, undef, undef, undef, undef, undef, undef, undef, undef, undef, undef, undef, undef, undef, undef, undef, undef, undef, undef, undef, undef, undef, undef, undef, undef, undef, undef, undef, undef, undef, undef, undef, undef, undef, undef, undef]) hsz ⟨hrest 0 (by kernel_rfl), hrest 1 (by kernel_rfl), hrest 2 (by kernel_rfl), hrest 3 (by kernel_rfl), hrest 4 (by kernel_rfl), hrest 5 (by kernel_rfl), hrest 6 (by kernel_rfl), hrest 7 (by kernel_rfl), hrest 8 (by kernel_rfl), hrest 9 (by kernel_rfl), hrest 10 (by kernel_rfl), hrest 11 (by kernel_rfl), hrest 12 (by kernel_rfl), hrest 13 (by kernel_rfl), hrest 14 (by kernel_rfl), hrest 15 (by kernel_rfl), hrest 16 (by kernel_rfl), hrest 17 (by kernel_rfl), hrest 18 (by kernel_rfl), hrest 19 (by kernel_rfl), hrest 20 (by kernel_rfl), hrest 21 (by kernel_rfl), hrest 22 (by kernel_rfl), hrest 23 (by kernel_rfl), hrest 24 (by kernel_rfl), hrest 25 (by kernel_rfl), hrest 26 (by kernel_rfl), hrest 27 (by kernel_rfl), hrest 28 (by kernel_rfl), hrest 29 (by kernel_rfl), hrest 30 (by kernel_rfl), hrest 31 (by kernel_rfl), hrest 32 (by kernel_rfl), hrest 33 (by kernel_rfl), hrest 34 (by kernel_rfl), hrest 35 (by kernel_rfl), hrest 36 (by kernel_rfl), hrest 37 (by kernel_rfl), hrest 38 (by kernel_rfl), hrest 39 (by kernel_rfl), hrest 40 (by kernel_rfl), hrest 41 (by kernel_rfl), hrest 42 (by kernel_rfl), hrest 43 (by kernel_rfl), hrest 44 (by kernel_rfl), hrest 45 (by kernel_rfl), hrest 46 (by kernel_rfl), hrest 47 (by kernel_rfl), hrest 48 (by kernel_rfl), hrest 49 (by kernel_rfl), hrest 50 (by kernel_rfl), hrest 51 (by kernel_rfl), hrest 52 (by kernel_rfl), hrest 53 (by kernel_rfl), hrest 54 (by kernel_rfl), hrest 55 (by kernel_rfl), hrest 56 (by kernel_rfl), hrest 57 (by kernel_rfl), hrest 58 (by kernel_rfl), hrest 59 (by kernel_rfl), hrest 60 (by kernel_rfl), hrest 61 (by kernel_rfl), hrest 62 (by kernel_rfl), hrest 63 (by kernel_rfl), hrest 64 (by kernel_rfl), hrest 65 (by kernel_rfl), hrest 66 (by kernel_rfl), hrest 67 (by kernel_rfl), hrest 68 (by kernel_rfl), hrest 69 (by kernel_rfl), hrest 70 (by kernel_rfl), hrest 71 (by kernel_rfl), hrest 72 (by kernel_rfl), hrest 73 (by kernel_rfl), hrest 74 (by kernel_rfl), hrest 75 (by kernel_rfl), hrest 76 (by kernel_rfl), hrest 77 (by kernel_rfl), hrest 78 (by kernel_rfl), hrest 79 (by kernel_rfl), hrest 80 (by kernel_rfl), hrest 81 (by kernel_rfl), hrest 82 (by kernel_rfl), hrest 83 (by kernel_rfl), hrest 84 (by kernel_rfl), hrest 85 (by kernel_rfl), hrest 86 (by kernel_rfl), hrest 87 (by kernel_rfl), hs88, hs89, hs90, hs91, hs92, hs93, hs94, hs95, hs96, hs97, hs98, hs99, hs100, hs101, hs102, hs103, hs104, hs105, hs106, hs107, hs108, hs109, hs110, hs111, hs112, hs113, hs114, hs115, hs116, hs117, hs118, hs119, hs120, hs121, (show aq.tmps.getD 122 undef = Value.bool false from hslots 122 (by kernel_rfl)), hrest 123 (by kernel_rfl), hrest 124 (by kernel_rfl), hrest 125 (by kernel_rfl), hrest 126 (by kernel_rfl), hrest 127 (by kernel_rfl), hrest 128 (by kernel_rfl), hrest 129 (by kernel_rfl), hrest 130 (by kernel_rfl), hrest 131 (by kernel_rfl), hrest 132 (by kernel_rfl), hrest 133 (by kernel_rfl), hrest 134 (by kernel_rfl), hrest 135 (by kernel_rfl), hrest 136 (by kernel_rfl), hrest 137 (by kernel_rfl), hrest 138 (by kernel_rfl), hrest 139 (by kernel_rfl), hrest 140 (by kernel_rfl), hrest 141 (by kernel_rfl), hrest 142 (by kernel_rfl), hrest 143 (by kernel_rfl), hrest 144 (by kernel_rfl), hrest 145 (by kernel_rfl), hrest 146 (by kernel_rfl), hrest 147 (by kernel_rfl), hrest 148 (by kernel_rfl), hrest 149 (by kernel_rfl), hrest 150 (by kernel_rfl), hrest 151 (by kernel_rfl), hrest 152 (by kernel_rfl), hrest 153 (by kernel_rfl), hrest 154 (by kernel_rfl), hrest 155 (by kernel_rfl), hrest 156 (by kernel_rfl), hrest 157 (by kernel_rfl), hrest 158 (by kernel_rfl), hrest 159 (by kernel_rfl), hrest 160 (by kernel_rfl), hrest 161 (by kernel_rfl), hrest 162 (by kernel_rfl), hrest 163 (by kernel_rfl), hrest 164 (by kernel_rfl), hrest 165 (by kernel_rfl), hrest 166 (by kernel_rfl), hrest 167 (by kernel_rfl), hrest 168 (by kernel_rfl), hrest 169 (by kernel_rfl), hrest 170 (by kernel_rfl), hrest 171 (by kernel_rfl), hrest 172 (by kernel_rfl), hrest 173 (by kernel_rfl), hrest 174 (by kernel_rfl), hrest 175 (by kernel_rfl), hrest 176 (by kernel_rfl), hrest 177 (by kernel_rfl), hrest 178 (by kernel_rfl), hrest 179 (by kernel_rfl), hrest 180 (by kernel_rfl), hrest 181 (by kernel_rfl), hrest 182 (by kernel_rfl), hrest 183 (by kernel_rfl), hrest 184 (by kernel_rfl), hrest 185 (by kernel_rfl), hrest 186 (by kernel_rfl), hrest 187 (by kernel_rfl), hrest 188 (by kernel_rfl), hrest 189 (by kernel_rfl), hrest 190 (by kernel_rfl), hrest 191 (by kernel_rfl), hrest 192 (by kernel_rfl), trivial⟩ hdf
                      have HB0 := Lib.hid hB
                      clear hB hsz hdf hrest hslots hs88 hs89 hs90 hs91 hs92 hs93 hs94 hs95 hs96 hs97 hs98 hs99 hs100 hs101 hs102 hs103 hs104 hs105 hs106 hs107 hs108 hs109 hs110 hs111 hs112 hs113 hs114 hs115 hs116 hs117 hs118 hs119 hs120 hs121
                      go_wp2_with fail
                      go_roundw
                      case rel => exact ⟨j + 1, hj1, by go_num, HR.out.stay HB0.out⟩
                      case measure => simp [intOf]; omega
                · clear kj1
                  obtain rfl : j = V.n p + 64 := by omega
                  generalize V.n p = np at *
                  generalize V.C p = cp at *
                  go_wp2_with fail
                  go_roundw
                  case rel => exact ⟨p + 1, hpq, by go_num, HR.out⟩
                  case measure => simp [intOf]; omega
            · obtain rfl : p = q := by omega
              have HR := Lib.hid (hR.again (Nat.le_refl _)); clear hR
              go_wp2_with fail
              go_loopw [11] (fun i wr => ∃ (q : Nat) (L : List Value), q ≤ p ∧ i = .int .i64 q ∧ Again f V p LB GB w wr (fun j => mkV f j (V.n j)) L q) (fun i _ => p - (intOf i).toNat)
              case atStart => exact ⟨0, _, by omega, rfl, HR.out⟩
              case round =>
                clear HR
                obtain ⟨q, L, hq, rfl, hR⟩ := hrel
                by_cases hqp : q < p
                · have i1 : (q : Int) < (p : Int) := by omega
                  obtain ⟨w3, hmk, hg3, L0, hL0, hb3⟩ := make_dots wr
                  obtain ⟨WO, hWO⟩ : ∃ WO : World, WO = wr := ⟨_, rfl⟩
                  subst hWO
                  generalize hB : WO.heap.size = MB at *
                  have HR := Lib.hid (And.intro hR hB); clear hR hB
                  have H3 := Lib.hid (And.intro hg3 hb3); clear hg3 hb3
                  have HL0 := Lib.hid hL0; clear hL0
                  go_wp2_with fail
                  clear hmk
                  go_loopw [13] (fun i wr2 => ∃ j : Nat, j ≤ 64 ∧ i = .int .i64 j ∧ WO.grownBy wr2 none ∧ Blk wr2 MB 25 (amid f (q + p) j L0)) (fun i _ => 64 - (intOf i).toNat)
                  case atStart => exact ⟨0, by omega, rfl, H3.out.1, by rw [amid_start]; exact H3.out.2⟩
                  case round =>
                    clear H3
                    obtain ⟨j, hj, rfl, hg, hb⟩ := hrel
                    by_cases hj6 : j < 64
                    · have hmb : ∀ W, Calls Tryz.prog 23 #[.int .i64 ((q : Int) + (p : Int)), .int .i64 j] W (MarkOut W (f (q + p) j)) := fun W => by
                        have := HF.out (q + p) j W (by omega) (by omega)
                        rwa [Int.natCast_add] at this
                      have hall : ∀ W, WO.grownBy W none → Blk W MB 25 (amid f (q + p) j L0) → (∃ u, W.cell? ⟨MB, j * 2, none⟩ = some u) ∧ (∃ u, W.cell? ⟨MB, j * 2 + 1, none⟩ = some u) ∧ W.frozen? ⟨MB, j * 2, none⟩ = false ∧ W.frozen? ⟨MB, j * 2 + 1, none⟩ = false ∧ WO.grownBy ((W.setCell ⟨MB, j * 2, none⟩ (iV 0)).setCell ⟨MB, j * 2 + 1, none⟩ (iV (f (q + p) j))) none ∧
                          Blk ((W.setCell ⟨MB, j * 2, none⟩ (iV 0)).setCell ⟨MB, j * 2 + 1, none⟩ (iV (f (q + p) j))) MB 25 (amid f (q + p) (j + 1) L0) := fun W hW hb => by
                        have hl : j * 2 + 1 < L0.length := by rw [HL0.out]; omega
                        have hgt := amid_get f (q + p) j L0 hl
                        refine ⟨blkGet hb (by omega), blkGet hb hgt, hb.free _, hb.free _, gb_set_new (gb_set_new hW (by rw [HR.out.2]; exact Nat.le_refl _) _) (by rw [HR.out.2]; exact Nat.le_refl _) _, ?_⟩
                        have := (hb.set (j * 2) (iV 0)).set (j * 2 + 1) (iV (f (q + p) j))
                        rwa [amid_set _ _ _ _ hl] at this
                      have HI := Lib.hid (And.intro hall (And.intro hg (And.intro hb hmb))); clear hall hg hb hmb
                      generalize f (q + p) j = y at HI
                      have i2 : (j : Int) < 64 := by omega
                      go_wp2_with fail
                      refine (HI.out.2.2.2 _).mono ?_
                      rintro e w5 ⟨rfl, hg5⟩
                      obtain ⟨⟨u1, e1⟩, ⟨u2, e2⟩, f1, f2, hgs, hbs⟩ := HI.out.1 w5 (gb_trans HI.out.2.1 hg5) (HI.out.2.2.1.grown hg5 (by simp))
                      have HS := Lib.hid (And.intro hgs hbs); clear hgs hbs hg5
                      go_wp2_with fail
                      go_roundw
                      case rel => exact ⟨j + 1, hj6, by go_num, HS.out.1, HS.out.2⟩
                      case measure => simp [intOf]; omega
                    · obtain rfl : j = 64 := by omega
                      rw [amid_end _ _ _ _ HL0.out] at hb
                      have hA := HR.out.1.stay hg
                      have kc := hA.flat.at hqp
                      have hsm := HV.out.small q hqp
                      obtain ⟨v', w4, hap, hF4, hK4, ho4, hg4⟩ := flat_append (r := fun j => mkV f j (V.n j)) HV.out HG.out.2 (HR.out.1.flat.kept.size) hA.flat (kb_stay (kb_refl _ _) hg) hqp (V.v q) (V.n q) _ (Nat.le_refl _) (hA.flat.own q hqp) (by rw [List.take_of_length_le (by rw [mkV_length]; exact Nat.le_refl _)]) (Or.inl rfl) ⟨MB, 0, none⟩ 64 64 (mkV f (q + p) 64) (by omega) (mkV_length _ _ _) (fun j u hu => by
                        rw [Addr.add_lit, Nat.zero_add]; exact hb.cell hu) (mkV_one _ _ _) (by omega)
                      obtain ⟨c0, f0, hA4⟩ := HR.out.1.next HV.out HG.out.2 hqp HG.out.1 hF4 hK4 ho4 hg4
                      obtain ⟨u, hu⟩ := c0
                      obtain ⟨g, c, rfl, _⟩ := own_some ho4 (by omega)
                      have HI := Lib.hid hA4; clear hA4 hF4 hK4 ho4 hg4 hA hb hg
                      unfold Lists.v at hap
                      go_wp2_with (at_builtin; refine Lib.wpList_append_run _ rfl _ _ _ _ rfl _ _ rfl rfl _ _ hap ?_)
                      go_roundw
                      case rel => exact ⟨q + 1, _, hqp, by go_num, HI.out⟩
                      case measure => simp [intOf]; omega
                · obtain rfl : q = p := by omega
                  have HR := Lib.hid hR; clear hR
                  go_wp2_with fail
                  go_loopw [14] (fun i wr => ∃ p : Nat, p ≤ q ∧ i = .int .i64 p ∧ Again f V q LB GB w wr (fun j => mkV f j (V.n j)) L q) (fun i _ => q - (intOf i).toNat)
                  case atStart => exact ⟨0, by omega, rfl, HR.out⟩
                  case round =>
                    clear HR
                    obtain ⟨p, hp, rfl, hR⟩ := hrel
                    by_cases hpq : p < q
                    · have i1 : (p : Int) < (q : Int) := by omega
                      have HR := Lib.hid hR; clear hR
                      go_wp2_with fail
                      go_loopw [15] (fun i wr => ∃ j : Nat, j ≤ V.n p ∧ i = .int .i64 j ∧ Again f V q LB GB w wr (fun j => mkV f j (V.n j)) L q) (fun i _ => V.n p - (intOf i).toNat)
                      case atStart => exact ⟨0, by omega, rfl, HR.out⟩
                      case round =>
                        clear HR
                        obtain ⟨j, hj, rfl, hR⟩ := hrel
                        have kc := hR.flat.at hpq
                        have hsm := HV.out.small p hpq
                        have HR := Lib.hid hR; clear hR
                        obtain ⟨g, c, kg, kj, hnc⟩ := HR.out.at hpq
                        have kj1 := kj j
                        clear kj
                        by_cases hjn : j < V.n p
                        · obtain ⟨kj2, kj3⟩ := kj1 hjn
                          clear kj1
                          have HMB := Lib.hid (fun W => HF.out p j W (by omega) (by omega))
                          obtain ⟨g2, hA, kk, kk2⟩ := HR.out.flat.mark hpq hjn
                          rw [hA] at kc
                          clear hA
                          generalize f p j = y at *
                          generalize V.n p = np at *
                          generalize V.C p = cp at *
                          have i2 : (j : Int) < (np : Int) := by omega
                          have i3 : (j : Int) < (np : Int) + 64 := by omega
                          have HK : Hid (∀ {w' : World}, wr.grownBy w' none → w'.cell? ⟨LB, p, none⟩ = some (.slice (some ⟨g2, 0, none⟩) np cp) ∧ w'.cell? ⟨GB, p, none⟩ = some (.slice (some ⟨g, 0, none⟩) (np + 64) c) ∧ w'.cell? ⟨g, j * 2, none⟩ = some (iV 0) ∧ w'.cell? ⟨g, j * 2 + 1, none⟩ = some (iV y) ∧ w'.cell? ⟨g2, j * 2, none⟩ = some (iV 0) ∧ w'.cell? ⟨g2, j * 2 + 1, none⟩ = some (iV y)) := fun {w'} hg =>
                            ⟨gbk hg kc, gbk hg kg, gbk hg kj2, gbk hg kj3, gbk hg kk, gbk hg kk2⟩
                          have he : ∀ w, (Op.equalIn 10000 25 (.agg #[.int .i64 0, .int .i64 (y : Int)]) (.agg #[.int .i64 0, .int .i64 (y : Int)])).run Tryz.prog w = .ok true w := fun w => by rw [eq_dot]; simp
                          go_wp2_with fail
                          refine wp_region_flow3 (Fg.its [.any, .any, .any, .any, .any, .any, .any, .any, .any, .any, .any, .any, .any, .any, .any, .any, .any, .any, .any, .any, .any, .any, .any, .any, .any, .any, .any, .any, .any, .any, .any, .any, .any, .any, .any, .any, .any, .any, .any, .any, .any, .any, .any, .any, .any, .any, .any, .any, .any, .any, .any, .any, .any, .any, .any, .any, .any, .any, .any, .any, .any, .any, .any, .any, .any, .any, .any, .any, .any, .any, .any, .any, .any, .any, .any, .any, .any, .any, .any, .any, .any, .any, .any, .any, .any, .any, .any, .any, .any, .any, .any, .any, .any, .any, .any, .any, .any, .any, .any, .any, .any, .any, .any, .any, .any, .any, .any, .any, .any, .any, .any, .any, .any, .any, .any, .any, .any, .any, .any, .any, .any, .any, .any, .any, .any, .any, .any, .any, .any, .any, .any, .any, .any, .any, .any, .any, .any, .any, .any, .any, .any, .any, .any, .any, .any, .any, .any, .any, .any, .any, .any, .any, .any, .any, .any, .any, .any, .any, .any, .any, .any, .any, .any, .any, .any, .any, .any, .val (.slice (some ⟨LB, 0, none⟩) q C), .val (.int .i64 (p : Int)), .val (.pointer (some ⟨LB, p, none⟩)), .val (.slice (some ⟨g2, 0, none⟩) np cp), .val (.int .i64 (j : Int)), .val (.pointer (some ⟨g2, j * 2, none⟩)), .val (.agg #[iV 0, iV (y : Int)]), .val (.int .i64 (p : Int)), .val (.int .i64 (j : Int)), .val (.agg #[iV 0, iV (y : Int)]), .val (.bool true), .val (.bool false), .val (.bool false), .val (.slice (some ⟨GB, 0, none⟩) q q), .val (.int .i64 (p : Int)), .val (.pointer (some ⟨GB, p, none⟩)), .val (.slice (some ⟨g, 0, none⟩) (np + 64) c), .val (.int .i64 (j : Int)), .val (.pointer (some ⟨g, j * 2, none⟩)), .val (.agg #[iV 0, iV (y : Int)]), .val (.int .i64 (p : Int)), .val (.int .i64 (j : Int)), .val (.agg #[iV 0, iV (y : Int)]), .val (.bool true), .val (.bool false), .val (.bool false)]) (fun _ => 0) (fun _ _ _ => True) (fun w => World.grownBy wr w none) [] (by kernel_rfl) (by kernel_rfl) (by kernel_rfl) (gb_drew (gb_refl _ _)) (Fg.ptrs_nil _ _) (Fg.no_store (by kernel_rfl)) ?_ ?_
                          · refine ⟨Fg.value rfl fun ac w h => ?_, ?_⟩
                            · have e0 : ac.tmps.getD 0 undef = .slice (some ⟨LB, 0, none⟩) q C := h.rest 0 (by kernel_rfl)
                              refine ⟨wants_none rfl, .slice (some ⟨LB, 0, none⟩) q C, w, ?_, gb_refl _ _, rfl⟩
                              clear h
                              simp only [execOp, Act.eval, e0]
                              go_simp
                            refine ⟨Fg.value rfl fun ac w h => ?_, ?_⟩
                            · have e14 : ac.tmps.getD 14 undef = .int .i64 (p : Int) := h.rest 14 (by kernel_rfl)
                              refine ⟨wants_none rfl, .int .i64 (p : Int), w, ?_, gb_refl _ _, rfl⟩
                              clear h
                              simp only [execOp, Act.eval, e14]
                              go_simp
                            refine ⟨Fg.value rfl fun ac w h => ?_, ?_⟩
                            · have e167 : ac.tmps.getD 167 undef = .slice (some ⟨LB, 0, none⟩) q C := h.dep 167 (by kernel_rfl)
                              have e168 : ac.tmps.getD 168 undef = .int .i64 (p : Int) := h.dep 168 (by kernel_rfl)
                              refine ⟨wants_none rfl, .pointer (some ⟨LB, p, none⟩), w, ?_, gb_refl _ _, rfl⟩
                              clear h
                              simp only [execOp, Act.eval, e167, e168]
                              go_simp
                            refine ⟨Fg.value rfl fun ac w h => ?_, ?_⟩
                            · have e169 : ac.tmps.getD 169 undef = .pointer (some ⟨LB, p, none⟩) := h.dep 169 (by kernel_rfl)
                              have c0 := (HK.out h.base).1
                              refine ⟨wants_none rfl, .slice (some ⟨g2, 0, none⟩) np cp, w, ?_, gb_refl _ _, rfl⟩
                              clear h
                              simp only [execOp, Act.eval, e169]
                              go_simp
                            refine ⟨Fg.value rfl fun ac w h => ?_, ?_⟩
                            · have e15 : ac.tmps.getD 15 undef = .int .i64 (j : Int) := h.rest 15 (by kernel_rfl)
                              refine ⟨wants_none rfl, .int .i64 (j : Int), w, ?_, gb_refl _ _, rfl⟩
                              clear h
                              simp only [execOp, Act.eval, e15]
                              go_simp
                            refine ⟨Fg.value rfl fun ac w h => ?_, ?_⟩
                            · have e170 : ac.tmps.getD 170 undef = .slice (some ⟨g2, 0, none⟩) np cp := h.dep 170 (by kernel_rfl)
                              have e171 : ac.tmps.getD 171 undef = .int .i64 (j : Int) := h.dep 171 (by kernel_rfl)
                              refine ⟨wants_none rfl, .pointer (some ⟨g2, j * 2, none⟩), w, ?_, gb_refl _ _, rfl⟩
                              clear h
                              simp only [execOp, Act.eval, e170, e171]
                              go_simp
                            refine ⟨Fg.value rfl fun ac w h => ?_, ?_⟩
                            · have e172 : ac.tmps.getD 172 undef = .pointer (some ⟨g2, j * 2, none⟩) := h.dep 172 (by kernel_rfl)
                              have c4 := (HK.out h.base).2.2.2.2.1
                              have c5 := (HK.out h.base).2.2.2.2.2
                              refine ⟨wants_none rfl, .agg #[iV 0, iV (y : Int)], w, ?_, gb_refl _ _, rfl⟩
                              clear h
                              simp only [execOp, Act.eval, e172]
                              go_simp
                            refine ⟨Fg.value rfl fun ac w h => ?_, ?_⟩
                            · have e14 : ac.tmps.getD 14 undef = .int .i64 (p : Int) := h.rest 14 (by kernel_rfl)
                              refine ⟨wants_none rfl, .int .i64 (p : Int), w, ?_, gb_refl _ _, rfl⟩
                              clear h
                              simp only [execOp, Act.eval, e14]
                              go_simp
                            refine ⟨Fg.value rfl fun ac w h => ?_, ?_⟩
                            · have e15 : ac.tmps.getD 15 undef = .int .i64 (j : Int) := h.rest 15 (by kernel_rfl)
                              refine ⟨wants_none rfl, .int .i64 (j : Int), w, ?_, gb_refl _ _, rfl⟩
                              clear h
                              simp only [execOp, Act.eval, e15]
                              go_simp
                            refine ⟨Fg.call rfl fun ac w h => ?_, ?_⟩
                            · have e174 : ac.tmps.getD 174 undef = .int .i64 (p : Int) := h.dep 174 (by kernel_rfl)
                              have x174 : ac.tmps[174]?.getD undef = .int .i64 (p : Int) := by simpa using e174
                              have e175 : ac.tmps.getD 175 undef = .int .i64 (j : Int) := h.dep 175 (by kernel_rfl)
                              have x175 : ac.tmps[175]?.getD undef = .int .i64 (j : Int) := by simpa using e175
                              have hb := h.base
                              refine ⟨wants_none rfl, 23, #[.int .i64 (p : Int), .int .i64 (j : Int)], ?_, ?_⟩
                              · clear h hb e174 e175
                                go_simp
                              · refine (HMB.out w).mono ?_
                                intro e w1 hp
                                obtain ⟨rfl, hg⟩ := hp
                                exact ⟨_, rfl, hg, rfl⟩
                            refine ⟨Fg.value rfl fun ac w h => ?_, ?_⟩
                            · have e173 : ac.tmps.getD 173 undef = .agg #[iV 0, iV (y : Int)] := h.dep 173 (by kernel_rfl)
                              have e176 : ac.tmps.getD 176 undef = .agg #[iV 0, iV (y : Int)] := h.dep 176 (by kernel_rfl)
                              refine ⟨wants_none rfl, .bool true, w, ?_, gb_refl _ _, rfl⟩
                              clear h
                              simp only [execOp, Act.eval, e173, e176]
                              go_simp
                            refine ⟨Fg.value rfl fun ac w h => ?_, ?_⟩
                            · have e177 : ac.tmps.getD 177 undef = .bool true := h.dep 177 (by kernel_rfl)
                              refine ⟨wants_none rfl, .bool false, w, ?_, gb_refl _ _, rfl⟩
                              clear h
                              simp only [execOp, Act.eval, e177]
                              go_simp
                            refine ⟨Fg.value rfl fun ac w h => ?_, ?_⟩
                            · have e178 : ac.tmps.getD 178 undef = .bool false := h.dep 178 (by kernel_rfl)
                              refine ⟨wants_none rfl, .bool false, w, ?_, gb_refl _ _, rfl⟩
                              clear h
                              simp only [execOp, Act.eval, e178]
                              go_simp
                            refine ⟨Fg.value rfl fun ac w h => ?_, ?_⟩
                            · have e179 : ac.tmps.getD 179 undef = .bool false := h.dep 179 (by kernel_rfl)
                              have e5 : ac.tmps.getD 5 undef = .slice (some ⟨GB, 0, none⟩) q q := h.rest 5 (by kernel_rfl)
                              refine ⟨wants_some (d := 179) rfl rfl (by rw [h.size]; show 179 < 193; decide) e179, .slice (some ⟨GB, 0, none⟩) q q, w, ?_, gb_refl _ _, rfl⟩
                              clear h
                              simp only [execOp, Act.eval, e5]
                              go_simp
                            refine ⟨Fg.value rfl fun ac w h => ?_, ?_⟩
                            · have e179 : ac.tmps.getD 179 undef = .bool false := h.dep 179 (by kernel_rfl)
                              have e14 : ac.tmps.getD 14 undef = .int .i64 (p : Int) := h.rest 14 (by kernel_rfl)
                              refine ⟨wants_some (d := 179) rfl rfl (by rw [h.size]; show 179 < 193; decide) e179, .int .i64 (p : Int), w, ?_, gb_refl _ _, rfl⟩
                              clear h
                              simp only [execOp, Act.eval, e14]
                              go_simp
                            refine ⟨Fg.value rfl fun ac w h => ?_, ?_⟩
                            · have e179 : ac.tmps.getD 179 undef = .bool false := h.dep 179 (by kernel_rfl)
                              have e180 : ac.tmps.getD 180 undef = .slice (some ⟨GB, 0, none⟩) q q := h.dep 180 (by kernel_rfl)
                              have e181 : ac.tmps.getD 181 undef = .int .i64 (p : Int) := h.dep 181 (by kernel_rfl)
                              refine ⟨wants_some (d := 179) rfl rfl (by rw [h.size]; show 179 < 193; decide) e179, .pointer (some ⟨GB, p, none⟩), w, ?_, gb_refl _ _, rfl⟩
                              clear h
                              simp only [execOp, Act.eval, e180, e181]
                              go_simp
                            refine ⟨Fg.value rfl fun ac w h => ?_, ?_⟩
                            · have e179 : ac.tmps.getD 179 undef = .bool false := h.dep 179 (by kernel_rfl)
                              have e182 : ac.tmps.getD 182 undef = .pointer (some ⟨GB, p, none⟩) := h.dep 182 (by kernel_rfl)
                              have c1 := (HK.out h.base).2.1
                              refine ⟨wants_some (d := 179) rfl rfl (by rw [h.size]; show 179 < 193; decide) e179, .slice (some ⟨g, 0, none⟩) (np + 64) c, w, ?_, gb_refl _ _, rfl⟩
                              clear h
                              simp only [execOp, Act.eval, e182]
                              go_simp
                            refine ⟨Fg.value rfl fun ac w h => ?_, ?_⟩
                            · have e179 : ac.tmps.getD 179 undef = .bool false := h.dep 179 (by kernel_rfl)
                              have e15 : ac.tmps.getD 15 undef = .int .i64 (j : Int) := h.rest 15 (by kernel_rfl)
                              refine ⟨wants_some (d := 179) rfl rfl (by rw [h.size]; show 179 < 193; decide) e179, .int .i64 (j : Int), w, ?_, gb_refl _ _, rfl⟩
                              clear h
                              simp only [execOp, Act.eval, e15]
                              go_simp
                            refine ⟨Fg.value rfl fun ac w h => ?_, ?_⟩
                            · have e179 : ac.tmps.getD 179 undef = .bool false := h.dep 179 (by kernel_rfl)
                              have e183 : ac.tmps.getD 183 undef = .slice (some ⟨g, 0, none⟩) (np + 64) c := h.dep 183 (by kernel_rfl)
                              have e184 : ac.tmps.getD 184 undef = .int .i64 (j : Int) := h.dep 184 (by kernel_rfl)
                              refine ⟨wants_some (d := 179) rfl rfl (by rw [h.size]; show 179 < 193; decide) e179, .pointer (some ⟨g, j * 2, none⟩), w, ?_, gb_refl _ _, rfl⟩
                              clear h
                              simp only [execOp, Act.eval, e183, e184]
                              go_simp
                            refine ⟨Fg.value rfl fun ac w h => ?_, ?_⟩
                            · have e179 : ac.tmps.getD 179 undef = .bool false := h.dep 179 (by kernel_rfl)
                              have e185 : ac.tmps.getD 185 undef = .pointer (some ⟨g, j * 2, none⟩) := h.dep 185 (by kernel_rfl)
                              have c2 := (HK.out h.base).2.2.1
                              have c3 := (HK.out h.base).2.2.2.1
                              refine ⟨wants_some (d := 179) rfl rfl (by rw [h.size]; show 179 < 193; decide) e179, .agg #[iV 0, iV (y : Int)], w, ?_, gb_refl _ _, rfl⟩
                              clear h
                              simp only [execOp, Act.eval, e185]
                              go_simp
                            refine ⟨Fg.value rfl fun ac w h => ?_, ?_⟩
                            · have e179 : ac.tmps.getD 179 undef = .bool false := h.dep 179 (by kernel_rfl)
                              have e14 : ac.tmps.getD 14 undef = .int .i64 (p : Int) := h.rest 14 (by kernel_rfl)
                              refine ⟨wants_some (d := 179) rfl rfl (by rw [h.size]; show 179 < 193; decide) e179, .int .i64 (p : Int), w, ?_, gb_refl _ _, rfl⟩
                              clear h
                              simp only [execOp, Act.eval, e14]
                              go_simp
                            refine ⟨Fg.value rfl fun ac w h => ?_, ?_⟩
                            · have e179 : ac.tmps.getD 179 undef = .bool false := h.dep 179 (by kernel_rfl)
                              have e15 : ac.tmps.getD 15 undef = .int .i64 (j : Int) := h.rest 15 (by kernel_rfl)
                              refine ⟨wants_some (d := 179) rfl rfl (by rw [h.size]; show 179 < 193; decide) e179, .int .i64 (j : Int), w, ?_, gb_refl _ _, rfl⟩
                              clear h
                              simp only [execOp, Act.eval, e15]
                              go_simp
                            refine ⟨Fg.call rfl fun ac w h => ?_, ?_⟩
                            · have e179 : ac.tmps.getD 179 undef = .bool false := h.dep 179 (by kernel_rfl)
                              have e187 : ac.tmps.getD 187 undef = .int .i64 (p : Int) := h.dep 187 (by kernel_rfl)
                              have x187 : ac.tmps[187]?.getD undef = .int .i64 (p : Int) := by simpa using e187
                              have e188 : ac.tmps.getD 188 undef = .int .i64 (j : Int) := h.dep 188 (by kernel_rfl)
                              have x188 : ac.tmps[188]?.getD undef = .int .i64 (j : Int) := by simpa using e188
                              have hb := h.base
                              refine ⟨wants_some (d := 179) rfl rfl (by rw [h.size]; show 179 < 193; decide) e179, 23, #[.int .i64 (p : Int), .int .i64 (j : Int)], ?_, ?_⟩
                              · clear h hb e187 e188
                                go_simp
                              · refine (HMB.out w).mono ?_
                                intro e w1 hp
                                obtain ⟨rfl, hg⟩ := hp
                                exact ⟨_, rfl, hg, rfl⟩
                            refine ⟨Fg.value rfl fun ac w h => ?_, ?_⟩
                            · have e179 : ac.tmps.getD 179 undef = .bool false := h.dep 179 (by kernel_rfl)
                              have e186 : ac.tmps.getD 186 undef = .agg #[iV 0, iV (y : Int)] := h.dep 186 (by kernel_rfl)
                              have e189 : ac.tmps.getD 189 undef = .agg #[iV 0, iV (y : Int)] := h.dep 189 (by kernel_rfl)
                              refine ⟨wants_some (d := 179) rfl rfl (by rw [h.size]; show 179 < 193; decide) e179, .bool true, w, ?_, gb_refl _ _, rfl⟩
                              clear h
                              simp only [execOp, Act.eval, e186, e189]
                              go_simp
                            refine ⟨Fg.value rfl fun ac w h => ?_, ?_⟩
                            · have e179 : ac.tmps.getD 179 undef = .bool false := h.dep 179 (by kernel_rfl)
                              have e190 : ac.tmps.getD 190 undef = .bool true := h.dep 190 (by kernel_rfl)
                              refine ⟨wants_some (d := 179) rfl rfl (by rw [h.size]; show 179 < 193; decide) e179, .bool false, w, ?_, gb_refl _ _, rfl⟩
                              clear h
                              simp only [execOp, Act.eval, e190]
                              go_simp
                            refine ⟨Fg.value rfl fun ac w h => ?_, ?_⟩
                            · have e179 : ac.tmps.getD 179 undef = .bool false := h.dep 179 (by kernel_rfl)
                              have e191 : ac.tmps.getD 191 undef = .bool false := h.dep 191 (by kernel_rfl)
                              refine ⟨wants_none rfl, .bool false, w, ?_, gb_refl _ _, rfl⟩
                              clear h
                              simp only [execOp, Act.eval, e179, e191]
                              go_simp
                            trivial
                          · intro aq wq hB hsz hdf hrest hslots _
                            obtain ⟨u167, hs167⟩ : ∃ u, aq.tmps.getD 167 undef = u := ⟨_, rfl⟩
                            obtain ⟨u168, hs168⟩ : ∃ u, aq.tmps.getD 168 undef = u := ⟨_, rfl⟩
                            obtain ⟨u169, hs169⟩ : ∃ u, aq.tmps.getD 169 undef = u := ⟨_, rfl⟩
                            obtain ⟨u170, hs170⟩ : ∃ u, aq.tmps.getD 170 undef = u := ⟨_, rfl⟩
                            obtain ⟨u171, hs171⟩ : ∃ u, aq.tmps.getD 171 undef = u := ⟨_, rfl⟩
                            obtain ⟨u172, hs172⟩ : ∃ u, aq.tmps.getD 172 undef = u := ⟨_, rfl⟩
                            obtain ⟨u173, hs173⟩ : ∃ u, aq.tmps.getD 173 undef = u := ⟨_, rfl⟩
                            obtain ⟨u174, hs174⟩ : ∃ u, aq.tmps.getD 174 undef = u := ⟨_, rfl⟩
                            obtain ⟨u175, hs175⟩ : ∃ u, aq.tmps.getD 175 undef = u := ⟨_, rfl⟩
                            obtain ⟨u176, hs176⟩ : ∃ u, aq.tmps.getD 176 undef = u := ⟨_, rfl⟩
                            obtain ⟨u177, hs177⟩ : ∃ u, aq.tmps.getD 177 undef = u := ⟨_, rfl⟩
                            obtain ⟨u178, hs178⟩ : ∃ u, aq.tmps.getD 178 undef = u := ⟨_, rfl⟩
                            obtain ⟨u179, hs179⟩ : ∃ u, aq.tmps.getD 179 undef = u := ⟨_, rfl⟩
                            obtain ⟨u180, hs180⟩ : ∃ u, aq.tmps.getD 180 undef = u := ⟨_, rfl⟩
                            obtain ⟨u181, hs181⟩ : ∃ u, aq.tmps.getD 181 undef = u := ⟨_, rfl⟩
                            obtain ⟨u182, hs182⟩ : ∃ u, aq.tmps.getD 182 undef = u := ⟨_, rfl⟩
                            obtain ⟨u183, hs183⟩ : ∃ u, aq.tmps.getD 183 undef = u := ⟨_, rfl⟩
                            obtain ⟨u184, hs184⟩ : ∃ u, aq.tmps.getD 184 undef = u := ⟨_, rfl⟩
                            obtain ⟨u185, hs185⟩ : ∃ u, aq.tmps.getD 185 undef = u := ⟨_, rfl⟩
                            obtain ⟨u186, hs186⟩ : ∃ u, aq.tmps.getD 186 undef = u := ⟨_, rfl⟩
                            obtain ⟨u187, hs187⟩ : ∃ u, aq.tmps.getD 187 undef = u := ⟨_, rfl⟩
                            obtain ⟨u188, hs188⟩ : ∃ u, aq.tmps.getD 188 undef = u := ⟨_, rfl⟩
                            obtain ⟨u189, hs189⟩ : ∃ u, aq.tmps.getD 189 undef = u := ⟨_, rfl⟩
                            obtain ⟨u190, hs190⟩ : ∃ u, aq.tmps.getD 190 undef = u := ⟨_, rfl⟩
                            obtain ⟨u191, hs191⟩ : ∃ u, aq.tmps.getD 191 undef = u := ⟨_, rfl⟩
                            obtain rfl := Fg.frame_is (a := aq) (vs := [Value.slice (some ⟨LB, 0, none⟩) q C, undef, u2, Value.int .i64 (q : Int), u4, Value.slice (some ⟨GB, 0, none⟩) q q, Value.int .i64 (q : Int), u7, u8, Value.int .i64 (q : Int), u10, Value.int .i64 (q : Int), u12, u13, Value.int .i64 (p : Int), Value.int .i64 (j : Int), Value.int .i64 (q : Int), Value.slice (some ⟨LB, 0, none⟩) q C, Value.int .i64 (q : Int), Value.bool false, u20, u21, u22, u23, u24, u25, u26, u27, u28, u29, u30, u31, u32, u33, u34, u35, u36, u37, u38, u39, Value.slice (some ⟨LB, 0, none⟩) q C, Value.int .i64 (q : Int), Value.slice (some ⟨GB, 0, none⟩) q q, Value.int .i64 (q : Int), Value.slice (some ⟨LB, 0, none⟩) q C, Value.int .i64 (q : Int), Value.bool false, u47, u48, u49, u50, u51, u52, u53, u54, u55, u56, u57, u58, u59, u60, u61, u62, u63, u64, u65, u66, u67, u68, u69, u70, u71, u72, Value.int .i64 (q : Int), Value.slice (some ⟨LB, 0, none⟩) q C, Value.int .i64 (q : Int), Value.bool false, u77, u78, u79, u80, u81, u82, u83, u84, u85, u86, u87, u88, u89, u90, u91, u92, u93, u94, u95, u96, u97, u98, u99, u100, u101, u102, u103, u104, u105, u106, u107, u108, u109, u110, u111, u112, u113, u114, u115, u116, u117, u118, u119, u120, u121, u122, Value.int .i64 (q : Int), Value.slice (some ⟨LB, 0, none⟩) q C, Value.int .i64 (q : Int), Value.bool false, u127, u128, u129, u130, u131, u132, u133, u134, u135, u136, u137, u138, u139, u140, u141, u142, u143, u144, u145, u146, u147, u148, u149, u150, u151, Value.int .i64 (p : Int), Value.slice (some ⟨LB, 0, none⟩) q C, Value.int .i64 (q : Int), Value.bool true, u156, u157, Value.int .i64 (j : Int), Value.slice (some ⟨LB, 0, none⟩) q C, Value.int .i64 (p : Int), Value.pointer (some ⟨LB, p, none⟩), Value.slice (some ⟨g2, 0, none⟩) np cp, Value.int .i64 (np : Int), Value.bool true, u165, u166, u167, u168, u169, u170, u171, u172, u173, u174, u175, u176, u177, u178, u179, u180, u181, u182, u183, u184, u185, u186, u187, u188, u189, u190, u191, Value.bool false]) hsz ⟨hrest 0 (by kernel_rfl), hrest 1 (by kernel_rfl), hrest 2 (by kernel_rfl), hrest 3 (by kernel_rfl), hrest 4 (by kernel_rfl), hrest 5 (by kernel_rfl), hrest 6 (by kernel_rfl), hrest 7 (by kernel_rfl), hrest 8 (by kernel_rfl), hrest 9 (by kernel_rfl), hrest 10 (by kernel_rfl), hrest 11 (by kernel_rfl), hrest 12 (by kernel_rfl), hrest 13 (by kernel_rfl), hrest 14 (by kernel_rfl), hrest 15 (by kernel_rfl), hrest 16 (by kernel_rfl), hrest 17 (by kernel_rfl), hrest 18 (by kernel_rfl), hrest 19 (by kernel_rfl), hrest 20 (by kernel_rfl), hrest 21 (by kernel_rfl), hrest 22 (by kernel_rfl), hrest 23 (by kernel_rfl), hrest 24 (by kernel_rfl), hrest 25 (by kernel_rfl), hrest 26 (by kernel_rfl), hrest 27 (by kernel_rfl), hrest 28 (by kernel_rfl), hrest 29 (by kernel_rfl), hrest 30 (by kernel_rfl), hrest 31 (by kernel_rfl), hrest 32 (by kernel_rfl), hrest 33 (by kernel_rfl), hrest 34 (by kernel_rfl), hrest 35 (by kernel_rfl), hrest 36 (by kernel_rfl), hrest 37 (by kernel_rfl), hrest 38 (by kernel_rfl), hrest 39 (by kernel_rfl), hrest 40 (by kernel_rfl), hrest 41 (by kernel_rfl), hrest 42 (by kernel_rfl), hrest 43 (by kernel_rfl), hrest 44 (by kernel_rfl), hrest 45 (by kernel_rfl), hrest 46 (by kernel_rfl), hrest 47 (by kernel_rfl), hrest 48 (by kernel_rfl), hrest 49 (by kernel_rfl), hrest 50 (by kernel_rfl), hrest 51 (by kernel_rfl), hrest 52 (by kernel_rfl), hrest 53 (by kernel_rfl), hrest 54 (by kernel_rfl), hrest 55 (by kernel_rfl), hrest 56 (by kernel_rfl), hrest 57 (by kernel_rfl), hrest 58 (by kernel_rfl), hrest 59 (by kernel_rfl), hrest 60 (by kernel_rfl), hrest 61 (by kernel_rfl), hrest 62 (by kernel_rfl), hrest 63 (by kernel_rfl), hrest 64 (by kernel_rfl), hrest 65 (by kernel_rfl), hrest 66 (by kernel_rfl), hrest 67 (by kernel_rfl), hrest 68 (by kernel_rfl), hrest 69 (by kernel_rfl), hrest 70 (by kernel_rfl), hrest 71 (by kernel_rfl), hrest 72 (by kernel_rfl), hrest 73 (by kernel_rfl), hrest 74 (by kernel_rfl), hrest 75 (by kernel_rfl), hrest 76 (by kernel_rfl), hrest 77 (by kernel_rfl), hrest 78 (by kernel_rfl), hrest 79 (by kernel_rfl), hrest 80 (by kernel_rfl), hrest 81 (by kernel_rfl), hrest 82 (by kernel_rfl), hrest 83 (by kernel_rfl), hrest 84 (by kernel_rfl), hrest 85 (by kernel_rfl), hrest 86 (by kernel_rfl), hrest 87 (by kernel_rfl), hrest 88 (by kernel_rfl), hrest 89 (by kernel_rfl), hrest 90 (by kernel_rfl), hrest 91 (by kernel_rfl), hrest 92 (by kernel_rfl), hrest 93 (by kernel_rfl), hrest 94 (by kernel_rfl), hrest 95 (by kernel_rfl), hrest 96 (by kernel_rfl), hrest 97 (by kernel_rfl), hrest 98 (by kernel_rfl), hrest 99 (by kernel_rfl), hrest 100 (by kernel_rfl), hrest 101 (by kernel_rfl), hrest 102 (by kernel_rfl), hrest 103 (by kernel_rfl), hrest 104 (by kernel_rfl), hrest 105 (by kernel_rfl), hrest 106 (by kernel_rfl), hrest 107 (by kernel_rfl), hrest 108 (by kernel_rfl), hrest 109 (by kernel_rfl), hrest 110 (by kernel_rfl), hrest 111 (by kernel_rfl), hrest 112 (by kernel_rfl), hrest 113 (by kernel_rfl), hrest 114 (by kernel_rfl), hrest 115 (by kernel_rfl), hrest 116 (by kernel_rfl), hrest 117 (by kernel_rfl), hrest 118 (by kernel_rfl), hrest 119 (by kernel_rfl), hrest 120 (by kernel_rfl), hrest 121 (by kernel_rfl), hrest 122 (by kernel_rfl), hrest 123 (by kernel_rfl), hrest 124 (by kernel_rfl), hrest 125 (by kernel_rfl), hrest 126 (by kernel_rfl), hrest 127 (by kernel_rfl), hrest 128 (by kernel_rfl), hrest 129 (by kernel_rfl), hrest 130 (by kernel_rfl), hrest 131 (by kernel_rfl), hrest 132 (by kernel_rfl), hrest 133 (by kernel_rfl), hrest 134 (by kernel_rfl), hrest 135 (by kernel_rfl), hrest 136 (by kernel_rfl), hrest 137 (by kernel_rfl), hrest 138 (by kernel_rfl), hrest 139 (by kernel_rfl), hrest 140 (by kernel_rfl), hrest 141 (by kernel_rfl), hrest 142 (by kernel_rfl), hrest 143 (by kernel_rfl), hrest 144 (by kernel_rfl), hrest 145 (by kernel_rfl), hrest 146 (by kernel_rfl), hrest 147 (by kernel_rfl), hrest 148 (by kernel_rfl), hrest 149 (by kernel_rfl), hrest 150 (by kernel_rfl), hrest 151 (by kernel_rfl), hrest 152 (by kernel_rfl), hrest 153 (by kernel_rfl), hrest 154 (by kernel_rfl), hrest 155 (by kernel_rfl), hrest 156 (by kernel_rfl), hrest 157 (by kernel_rfl), hrest 158 (by kernel_rfl), hrest 159 (by kernel_rfl), hrest 160 (by kernel_rfl), hrest 161 (by kernel_rfl), hrest 162 (by kernel_rfl), hrest 163 (by kernel_rfl), hrest 164 (by kernel_rfl), hrest 165 (by kernel_rfl), hrest 166 (by kernel_rfl), hs167, hs168, hs169, hs170, hs171, hs172, hs173, hs174, hs175, hs176, hs177, hs178, hs179, hs180, hs181, hs182, hs183, hs184, hs185, hs186, hs187, hs188, hs189, hs190, hs191, (show aq.tmps.getD 192 undef = Value.bool false from hslots 192 (by kernel_rfl)), trivial⟩ hdf
                            have HB0 := Lib.hid hB
                            clear hB hsz hdf hrest hslots hs167 hs168 hs169 hs170 hs171 hs172 hs173 hs174 hs175 hs176 hs177 hs178 hs179 hs180 hs181 hs182 hs183 hs184 hs185 hs186 hs187 hs188 hs189 hs190 hs191
                            go_wp2_with fail
                            go_roundw
                            case rel => exact ⟨j + 1, hjn, by go_num, HR.out.stay HB0.out⟩
                            case measure => simp [intOf]; omega
                        · clear kj1
                          obtain rfl : j = V.n p := by omega
                          generalize V.n p = np at *
                          generalize V.C p = cp at *
                          go_wp2_with fail
                          go_roundw
                          case rel => exact ⟨p + 1, hpq, by go_num, HR.out⟩
                          case measure => simp [intOf]; omega
                    · obtain rfl : p = q := by omega
                      have HR := Lib.hid hR.flat; clear hR
                      go_wp2
                      go_ret
                      exact ⟨rfl, HR.out⟩
end Fd
end Go.Proofs.YtkffbaihknhefaaGreat
