/- The kit's flatBytes, walked: marks laid. -/
import Derived.Test.YtmnlidfalhjghaaGreatDoorFlatGrow
namespace Go.Proofs.YtmnlidfalhjghaaGreatDoor
open Go.RowKit Ow

set_option maxRecDepth 100000 in
set_option maxHeartbeats 4000000 in
theorem flatB_any {f : Nat → Nat → Nat} (hf : Marks f) (V : Lists) (m LB C : Nat) (xs : Nat → List Value) (w : World) (hm : m ≤ 70000) (hC : m ≤ C) (hC2 : C < 9223372036854775808) (hV : V.Apart m LB w.heap.size) (hO : Owns w V m xs) (hL : ListAt w LB V m) :
    Calls Tryz.prog 49 #[.slice (some ⟨LB, 0, none⟩) m C] w fun e w' => e = .returned (.bool true) ∧ FlatAt V m LB w w' (fun j => mkV f j (V.n j)) := by
  have HL := Lib.hid (fun j hj => (by have := (hO j hj).1; omega) : ∀ j, j < m → (xs j).length = V.n j)
  have hF : FlatAt V m LB w w (rowAt f V xs 0 0) := ⟨hO.congr (fun j _ => (rowAt_start f V xs j).symm), hL, kb_refl _ _⟩
  have HF := Lib.hid hf; clear hf
  have HV := Lib.hid hV; clear hV
  have H0 := Lib.hid hF; clear hF hO hL
  go_enter Tryz.func49, Tryz.ntmps49
  go_wp2_with fail
  go_loopw [3] (fun i wr => ∃ k : Nat, k ≤ m ∧ i = .int .i64 k ∧ FlatAt V m LB w wr (rowAt f V xs k 0)) (fun i _ => m - (intOf i).toNat)
  case atStart => exact ⟨0, by omega, rfl, H0.out⟩
  case round =>
    obtain ⟨k, hk, rfl, hR⟩ := hrel
    by_cases hlt : k < m
    · have i1 : (k : Int) < (m : Int) := by omega
      have HR := Lib.hid hR; clear hR
      go_wp2_with fail
      go_loopw [4] (fun i wr => ∃ j : Nat, j ≤ V.n k ∧ i = .int .i64 j ∧ FlatAt V m LB w wr (rowAt f V xs k j)) (fun i _ => V.n k - (intOf i).toNat)
      case atStart => exact ⟨0, by omega, rfl, HR.out⟩
      case round =>
        obtain ⟨j, hj, rfl, hR2⟩ := hrel
        have kc := hR2.at hlt
        by_cases hjn : j < V.n k
        · obtain ⟨g, hA, hg⟩ := hR2.own.some hlt (by omega)
          have hset := hR2.set HV.out hlt (by rw [HL.out k hlt]; exact hjn) hA
          have hfr := hR2.free (i := j) hlt hA
          obtain ⟨u, hu⟩ := hR2.old hlt (by rw [HL.out k hlt]; exact hjn) hA
          have hsm := HV.out.small k hlt
          rw [hA] at kc
          have HI := Lib.hid (And.intro hset hg); clear hset hg hA hR2
          have hmb := fun W => HF.out.run k j k j W rfl rfl (by omega) (by omega)
          generalize hnk : V.n k = nk at *
          generalize V.C k = ck at *
          have HN := Lib.hid hnk; clear hnk
          generalize hy : f k j = y at *
          have HY := Lib.hid hy; clear hy
          have HMB := Lib.hid hmb; clear hmb
          have i2 : (j : Int) < (nk : Int) := by omega
          unfold u8N at HI
          go_wp2_with fail
          go_region_with (go_at_call 23; refine (HMB.out _).mono ?_; rintro e w' ⟨rfl, rfl⟩)
          all_goals go_wp2
          all_goals go_roundw
          case rel => exact ⟨j + 1, hjn, by go_num, HI.out.1.drew 1⟩
          case measure => simp [intOf]; omega
          case rel => exact ⟨j + 1, hjn, by go_num, HI.out.1.drew 1⟩
          case measure => simp [intOf]; omega
        · obtain rfl : j = V.n k := by omega
          have hR3 := hR2.congr (fun j _ => rowAt_next f V xs k j (HL.out k hlt))
          have HI := Lib.hid hR3; clear hR3 hR2
          generalize hnk : V.n k = nk at *
          generalize V.C k = ck at *
          have HN := Lib.hid hnk; clear hnk
          go_wp2_with fail
          go_roundw
          case rel => exact ⟨k + 1, hlt, by go_num, HI.out⟩
          case measure => simp [intOf]; omega
    · obtain rfl : k = m := by omega
      have hR1 := hR.congr (r' := fun j => mkV f j (V.n j)) (fun j hj => rowAt_end f V xs k j hj)
      have hLB := H0.out.list.lt
      obtain ⟨w3, hmk, hg3, hs3, hb3⟩ := make_nils k wr (by omega)
      have hF3 : Filed f V k LB wr.heap.size w w3 (fun j => mkV f j (V.n j)) (fun _ => .slice none 0 0) 0 := ⟨hR1.stay hg3, by rw [filed_start]; exact hb3, fun j hj => by omega⟩
      have hGB : w.heap.size ≤ wr.heap.size := hR1.kept.size
      generalize hB : wr.heap.size = GB at *
      have HG := Lib.hid (And.intro hGB hLB); clear hGB hLB hg3 hs3 hb3 hB hR hR1
      have H3 := Lib.hid hF3; clear hF3
      go_wp2_with fail
      clear hmk
      go_loopw [6] (fun i wr => ∃ (k' : Nat) (vs : Nat → Value), k' ≤ k ∧ i = .int .i64 k' ∧ Filed f V k LB GB w wr (fun j => mkV f j (V.n j)) vs k') (fun i _ => k - (intOf i).toNat)
      case atStart => exact ⟨0, _, by omega, rfl, H3.out⟩
      case round =>
        clear H3
        obtain ⟨q, vs, hq, rfl, hR⟩ := hrel
        by_cases hlt : q < k
        · have i1 : (q : Int) < (k : Int) := by omega
          have kc := hR.flat.at hlt
          have hsm := HV.out.small q hlt
          have HR := Lib.hid hR; clear hR
          go_wp2_with fail
          go_loopw [7, 8] (fun v i wr2 => ∃ t : Nat, t ≤ 64 ∧ i = .int .i64 t ∧ FlatAt V k LB w wr2 (fun j => mkV f j (V.n j)) ∧ Kb (fun i => V.g q = some i) wr wr2 ∧ wr2.ownsRow 0 5 1 v (V.n q + t) (mkV f q (V.n q + t)) ∧ Grew V q wr.heap.size (V.n q + t) v) (fun _ i _ => 64 - (intOf i).toNat)
          case atStart => exact ⟨0, by omega, rfl, HR.out.flat, kb_refl _ _, HR.out.flat.own q hlt, Or.inl rfl⟩
          case round =>
            obtain ⟨t, ht, rfl, hF2, hK2, ho2, hg2⟩ := hrel
            have kc := hF2.at hlt
            by_cases ht6 : t < 64
            · obtain ⟨y, hy⟩ : ∃ y, y = f q (V.n q + t) := ⟨_, rfl⟩
              have hgb := World.grownBy_alloc wr (.cells #[u8N y] 5) none
              obtain ⟨v', w4, hap, hF4, hK4, ho4, hg4⟩ := flat_append (r := fun j => mkV f j (V.n j)) HV.out HG.out.2 (HR.out.flat.kept.size) (hF2.stay hgb) (kb_stay hK2 hgb) hlt u7 (V.n q + t) _ (by omega) (ho2.alloc _) (mkV_take f q _ _ (by omega)) hg2 ⟨wr.heap.size, 0, none⟩ 1 1 [u8N y] (by omega) rfl (fun j u hu => by
                have hb := Blk.new wr [u8N y] 5
                have hadd : (⟨wr.heap.size, 0, none⟩ : Addr).add j = ⟨wr.heap.size, j, none⟩ := by unfold Addr.add; split <;> simp_all
                rw [hadd]; exact hb.cell hu) (by simp [u8N, Value.oneCell']) (by omega)
              rw [hy, ← mkV_next] at ho4
              have hmb := fun W => HF.out.run q (V.n q + t) q ((V.n q : Int) + (t : Int)) W rfl (by omega) (by omega) (by omega)
              rw [← hy] at hmb
              have HI := Lib.hid (And.intro hF4 (And.intro hK4 (And.intro ho4 (And.intro hg4 hmb)))); clear hF4 hK4 ho4 hg4 hmb hF2 hK2 ho2 hg2 hgb
              have HY := Lib.hid hy; clear hy
              generalize hnk : V.n q = nk at *
              have HN := Lib.hid hnk; clear hnk
              unfold u8N at hap
              have i2 : (t : Int) < 64 := by omega
              go_wp2_with fail
              refine (HI.out.2.2.2.2 wr).mono ?_
              rintro e w5 ⟨rfl, rfl⟩
              go_wp2_with (at_builtin; refine wpList_append_run rfl (.tmp 57) (.tmp 67) 22 rfl rfl _ _ rfl rfl _ _ hap ?_)
              go_roundw
              case rel => exact ⟨t + 1, ht6, by go_num, HI.out.1, HI.out.2.1, HI.out.2.2.1, HI.out.2.2.2.1⟩
              case measure => simp [intOf]; omega
            · obtain rfl : t = 64 := by omega
              obtain ⟨c0, f0, hF4⟩ := HR.out.next HV.out HG.out.2 hlt HG.out.1 hF2 hK2 ho2 hg2
              obtain ⟨g, c, rfl, _⟩ := own_some ho2 (by omega)
              have HI := Lib.hid hF4; clear hF4 hF2 hK2 ho2 hg2
              go_wp2_with fail
              go_roundw
              case rel => exact ⟨q + 1, _, hlt, by go_num, HI.out⟩
              case measure => simp [intOf]; omega
        · obtain rfl : q = k := by omega
          have HR := Lib.hid hR; clear hR
          go_wp2_with fail
          go_loopw [9] (fun i wr => ∃ p : Nat, p ≤ q ∧ i = .int .i64 p ∧ Filed f V q LB GB w wr (fun j => mkV f j (V.n j)) vs q) (fun i _ => q - (intOf i).toNat)
          case atStart => exact ⟨0, by omega, rfl, HR.out⟩
          case round =>
            clear HR
            obtain ⟨p, hp, rfl, hR⟩ := hrel
            by_cases hpq : p < q
            · have i1 : (p : Int) < (q : Int) := by omega
              have HR := Lib.hid hR; clear hR
              go_wp2_with fail
              go_loopw [10] (fun i wr => ∃ j : Nat, j ≤ V.n p + 64 ∧ i = .int .i64 j ∧ Filed f V q LB GB w wr (fun j => mkV f j (V.n j)) vs q) (fun i _ => V.n p + 64 - (intOf i).toNat)
              case atStart => exact ⟨0, by omega, rfl, HR.out⟩
              case round =>
                clear HR
                obtain ⟨j, hj, rfl, hR⟩ := hrel
                have kc := hR.flat.at hpq
                have hsm := HV.out.small p hpq
                have HR := Lib.hid hR; clear hR
                obtain ⟨g, c, hvs, kg, kj, hnc⟩ := HR.out.at hpq
                have kj1 := kj j
                clear kj
                by_cases hj1 : j < V.n p + 64
                · have kj2 := kj1 hj1
                  clear kj1
                  have hmb := fun W => HF.out.run p j p j W rfl rfl (by omega) (by omega)
                  by_cases hjn : j < V.n p
                  · obtain ⟨g2, hA, kk⟩ := HR.out.flat.mark hpq hjn
                    rw [hA] at kc
                    clear hA
                    generalize f p j = y at *
                    generalize V.n p = np at *
                    generalize V.C p = cp at *
                    have i2 : (j : Int) < (np : Int) := by omega
                    have i3 : (j : Int) < (np : Int) + 64 := by omega
                    unfold u8N at kk kj2
                    have HMB := Lib.hid hmb; clear hmb
                    go_wp2_with fail
                    go_quiet ((go_at_call 23; exact Calls.quiet_of_same (HMB.out _)))
                    go_wp2_with fail
                    go_roundw
                    case rel => exact ⟨j + 1, hj1, by go_num, HR.out.drew nq⟩
                    case measure => simp [intOf]; omega
                  · generalize f p j = y at *
                    generalize V.n p = np at *
                    generalize V.C p = cp at *
                    have i2 : ¬ (j : Int) < (np : Int) := by omega
                    have i3 : (j : Int) < (np : Int) + 64 := by omega
                    unfold u8N at kj2
                    have HMB := Lib.hid hmb; clear hmb
                    go_wp2_with fail
                    go_quiet ((go_at_call 23; exact Calls.quiet_of_same (HMB.out _)))
                    go_wp2_with fail
                    go_roundw
                    case rel => exact ⟨j + 1, hj1, by go_num, HR.out.drew nq⟩
                    case measure => simp [intOf]; omega
                · clear kj1
                  obtain rfl : j = V.n p + 64 := by omega
                  generalize V.n p = np at *
                  generalize V.C p = cp at *
                  go_wp2_with fail
                  go_roundw
                  case rel => exact ⟨p + 1, hpq, by go_num, HR.out⟩
                  case measure => simp [intOf]; omega
            · obtain rfl : p = q := by omega
              have HR := Lib.hid (hR.again (Nat.le_refl _)); clear hR
              go_wp2_with fail
              go_loopw [11] (fun i wr => ∃ (q : Nat) (L : List Value), q ≤ p ∧ i = .int .i64 q ∧ Again f V p LB GB w wr (fun j => mkV f j (V.n j)) L q) (fun i _ => p - (intOf i).toNat)
              case atStart => exact ⟨0, _, by omega, rfl, HR.out⟩
              case round =>
                clear HR
                obtain ⟨q, L, hq, rfl, hR⟩ := hrel
                by_cases hqp : q < p
                · have i1 : (q : Int) < (p : Int) := by omega
                  obtain ⟨w3, hmk0, hg3, hs3, hb3⟩ := make_bytes 64 64 wr (by omega) (by omega)
                  have hmk : (Instr.makeSlice 22 (.int .i64 64) (.int .i64 64)).run Tryz.prog wr = .ok (.slice (some ⟨wr.heap.size, 0, none⟩) 64 64) w3 := hmk0
                  clear hmk0
                  generalize hB : wr.heap.size = MB at *
                  have HR := Lib.hid (And.intro hR hB); clear hR hB
                  have H3 := Lib.hid (And.intro hg3 hb3); clear hg3 hb3 hs3
                  go_wp2_with fail
                  clear hmk
                  go_loopw [13] (fun i wr2 => ∃ j : Nat, j ≤ 64 ∧ i = .int .i64 j ∧ wr.grownBy wr2 none ∧ Blk wr2 MB 5 (amid f (q + p) j (List.replicate 64 (u8N 0)))) (fun i _ => 64 - (intOf i).toNat)
                  case atStart => exact ⟨0, by omega, rfl, H3.out.1, by rw [amid_start]; exact H3.out.2⟩
                  case round =>
                    clear H3
                    obtain ⟨j, hj, rfl, hg, hb⟩ := hrel
                    by_cases hj6 : j < 64
                    · have hmb := fun W => HF.out.run (q + p) j ((q : Int) + (p : Int)) j W (by omega) rfl (by omega) (by omega)
                      have hset := hb.set j (u8N (f (q + p) j))
                      rw [amid_set _ _ _ _ (by simpa using hj6)] at hset
                      obtain ⟨u, hu⟩ := hb.get (amid_get f (q + p) j (List.replicate 64 (u8N 0)) (by simpa using hj6))
                      have hfr := hb.free j
                      have hgs := gb_set_new hg (p := ⟨MB, j, none⟩) (by rw [HR.out.2]; exact Nat.le_refl _) (u8N (f (q + p) j))
                      generalize f (q + p) j = y at *
                      have HI := Lib.hid (And.intro hset (And.intro hgs hmb)); clear hset hgs hmb hg hb
                      unfold u8N at HI
                      have i2 : (j : Int) < 64 := by omega
                      go_wp2_with fail
                      refine (HI.out.2.2 wr).mono ?_
                      rintro e w5 ⟨rfl, rfl⟩
                      go_wp2_with fail
                      go_roundw
                      case rel => exact ⟨j + 1, hj6, by go_num, HI.out.2.1, HI.out.1⟩
                      case measure => simp [intOf]; omega
                    · obtain rfl : j = 64 := by omega
                      rw [amid_end _ _ _ _ (by simp)] at hb
                      have hA := HR.out.1.stay hg
                      have kc := hA.flat.at hqp
                      have hsm := HV.out.small q hqp
                      obtain ⟨v', w4, hap, hF4, hK4, ho4, hg4⟩ := flat_append (r := fun j => mkV f j (V.n j)) HV.out HG.out.2 (HR.out.1.flat.kept.size) hA.flat (kb_stay (kb_refl _ _) hg) hqp (V.v q) (V.n q) _ (Nat.le_refl _) (hA.flat.own q hqp) (by rw [List.take_of_length_le (by rw [mkV_length]; exact Nat.le_refl _)]) (Or.inl rfl) ⟨MB, 0, none⟩ 64 64 (mkV f (q + p) 64) (by omega) (mkV_length _ _ _) (fun j u hu => by
                        have hadd : (⟨MB, 0, none⟩ : Addr).add j = ⟨MB, j, none⟩ := by unfold Addr.add; split <;> simp_all
                        rw [hadd]; exact hb.cell hu) (mkV_one _ _ _) (by omega)
                      obtain ⟨c0, f0, hA4⟩ := HR.out.1.next HV.out HG.out.2 hqp HG.out.1 hF4 hK4 ho4 hg4
                      obtain ⟨u, hu⟩ := c0
                      obtain ⟨g, c, rfl, _⟩ := own_some ho4 (by omega)
                      have HI := Lib.hid hA4; clear hA4 hF4 hK4 ho4 hg4 hA hb hg
                      unfold Lists.v at hap
                      go_wp2_with (at_builtin; refine wpList_append_run rfl (.tmp 148) (.tmp 149) 22 rfl rfl _ _ rfl rfl _ _ hap ?_)
                      go_roundw
                      case rel => exact ⟨q + 1, _, hqp, by go_num, HI.out⟩
                      case measure => simp [intOf]; omega
                · obtain rfl : q = p := by omega
                  have HR := Lib.hid hR; clear hR
                  go_wp2_with fail
                  go_loopw [14] (fun i wr => ∃ p : Nat, p ≤ q ∧ i = .int .i64 p ∧ Again f V q LB GB w wr (fun j => mkV f j (V.n j)) L q) (fun i _ => q - (intOf i).toNat)
                  case atStart => exact ⟨0, by omega, rfl, HR.out⟩
                  case round =>
                    clear HR
                    obtain ⟨p, hp, rfl, hR⟩ := hrel
                    by_cases hpq : p < q
                    · have i1 : (p : Int) < (q : Int) := by omega
                      have HR := Lib.hid hR; clear hR
                      go_wp2_with fail
                      go_loopw [15] (fun i wr => ∃ j : Nat, j ≤ V.n p ∧ i = .int .i64 j ∧ Again f V q LB GB w wr (fun j => mkV f j (V.n j)) L q) (fun i _ => V.n p - (intOf i).toNat)
                      case atStart => exact ⟨0, by omega, rfl, HR.out⟩
                      case round =>
                        clear HR
                        obtain ⟨j, hj, rfl, hR⟩ := hrel
                        have kc := hR.flat.at hpq
                        have hsm := HV.out.small p hpq
                        have HR := Lib.hid hR; clear hR
                        obtain ⟨g, c, kg, kj, hnc⟩ := HR.out.at hpq
                        have kj1 := kj j
                        clear kj
                        by_cases hjn : j < V.n p
                        · have kj2 := kj1 hjn
                          clear kj1
                          have hmb := fun W => HF.out.run p j p j W rfl rfl (by omega) (by omega)
                          obtain ⟨g2, hA, kk⟩ := HR.out.flat.mark hpq hjn
                          rw [hA] at kc
                          clear hA
                          generalize f p j = y at *
                          generalize V.n p = np at *
                          generalize V.C p = cp at *
                          have i2 : (j : Int) < (np : Int) := by omega
                          have i3 : (j : Int) < (np : Int) + 64 := by omega
                          unfold u8N at kk kj2
                          have HMB := Lib.hid hmb; clear hmb
                          go_wp2_with fail
                          go_quiet ((go_at_call 23; exact Calls.quiet_of_same (HMB.out _)))
                          go_wp2_with fail
                          go_roundw
                          case rel => exact ⟨j + 1, hjn, by go_num, HR.out.drew nq⟩
                          case measure => simp [intOf]; omega
                        · clear kj1
                          obtain rfl : j = V.n p := by omega
                          generalize V.n p = np at *
                          generalize V.C p = cp at *
                          go_wp2_with fail
                          go_roundw
                          case rel => exact ⟨p + 1, hpq, by go_num, HR.out⟩
                          case measure => simp [intOf]; omega
                    · obtain rfl : p = q := by omega
                      have HR := Lib.hid hR.flat; clear hR
                      go_wp2
                      go_ret
                      exact ⟨rfl, HR.out⟩
end Go.Proofs.YtmnlidfalhjghaaGreatDoor
