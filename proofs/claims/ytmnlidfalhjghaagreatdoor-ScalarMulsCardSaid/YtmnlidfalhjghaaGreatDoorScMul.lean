/- scalar: mulAdd: the words of a product and a sum. -/
import Derived.Test.YtmnlidfalhjghaaGreatDoorScFill
import Derived.Test.YtmnlidfalhjghaaGreatDoorScMulM
import Derived.Laws.CopyOwn
import Derived.IntWalk
namespace Go.Proofs.YtmnlidfalhjghaaGreatDoor
open Go.RowKit Ow

theorem size_u64 : (Tryz.prog.info? 40).map (·.size) = some 1 := by kernel_rfl
theorem copy_words (R C c : Nat) (T S : TypeId) (tl : List Value) (w : World) (hR : Blk w R T (wds 0 8 ++ tl)) (hC : Blk w C S [wV c 0, wV c 1, wV c 2, wV c 3]) (hc : c < 2 ^ 256) :
    ∃ w', (Builtin.copy_ #[87, 87] 3 #[.slice (some ⟨R, 0, none⟩) 8 8, .slice (some ⟨C, 0, none⟩) 4 4]).run Tryz.prog w = .ok (.int .i64 4) w' ∧ w.grownBy w' (some R) ∧ Blk w' R T (wds c 8 ++ tl) := by
  have h := run_copy_row (P := Tryz.prog) w 87 87 3 40 R 0 8 8 ⟨C, 0, none⟩ 4 4 (wds 0 8 ++ tl).toArray T [wV c 0, wV c 1, wV c 2, wV c 3] Tryz.underlying87 size_u64 hR rfl
    (fun j v hv => by
      have hj : j < 4 := by
        rcases Nat.lt_or_ge j 4 with h | h
        · exact h
        · rw [List.getElem?_eq_none (by simpa using h)] at hv; cases hv
      have hadd : (⟨C, 0, none⟩ : Addr).add j = ⟨C, j, none⟩ := by unfold Addr.add; split <;> simp_all
      rw [hadd]; exact hC.cell hv) (by simp [wds]; omega) (by intro v hv; simp at hv; rcases hv with rfl | rfl | rfl | rfl <;> rfl)
  refine ⟨_, h, gb_setRow' (gb_refl _ _) _, ?_⟩
  have e : ((wds 0 8 ++ tl).toArray.toList.take 0 ++ ([wV c 0, wV c 1, wV c 2, wV c 3] ++ (wds 0 8 ++ tl).toArray.toList.drop (0 + 4))) = wds c 8 ++ tl := by
    have z : ∀ j, 4 ≤ j → wV c j = wV 0 j := fun j hj => by
      have hp : (2 : Nat) ^ 256 ≤ 2 ^ (64 * j) := Nat.pow_le_pow_right (by decide) (by omega)
      unfold wV Sc.wrd
      rw [Nat.div_eq_of_lt (by omega), Nat.zero_div]
    rw [wds8, wds8, z 4 (by decide), z 5 (by decide), z 6 (by decide), z 7 (by decide)]
    rfl
  rw [← e]
  exact hR.row _
theorem narrow_index (n j : Nat) (hj : j < 4) : ∀ w, (Instr.index 44 (.agg #[.int .u64 (Sc.wrd n 0 : Int), .int .u64 (Sc.wrd n 1 : Int), .int .u64 (Sc.wrd n 2 : Int), .int .u64 (Sc.wrd n 3 : Int)]) (.int .i64 j)).run Tryz.prog w = .ok (.int .u64 (Sc.wrd n j : Int)) w := by
  intro w
  obtain rfl | rfl | rfl | rfl : j = 0 ∨ j = 1 ∨ j = 2 ∨ j = 3 := by omega
  all_goals kernel_rfl
set_option maxRecDepth 100000 in
set_option maxHeartbeats 1600000 in
theorem mulAdd_any (R a b c : Nat) (T : TypeId) (Y tl : List Value) (w : World) (hY : Y.length = 8) (ha : a < 2 ^ 256) (hbb : b < 2 ^ 256) (hc : c < 2 ^ 256) (hb : Blk w R T (Y ++ tl)) :
    Calls Tryz.prog 35 #[.pointer (some ⟨R, 0, none⟩), narrowV a, narrowV b, narrowV c] w fun e w' => e = .returned (.tuple #[]) ∧ w.grownBy w' (some R) ∧ Blk w' R T (wds (a * b + c) 8 ++ tl) := by
  have HB := Lib.hid hb; clear hb
  match Y, hY with
  | [y0, y1, y2, y3, y4, y5, y6, y7], _ =>
    have hR := HB.out.lt
    have hb3 := ((HB.out.alloc (.cells #[wV a 0, wV a 1, wV a 2, wV a 3] 44)).alloc (.cells #[wV b 0, wV b 1, wV b 2, wV b 3] 44)).alloc (.cells #[wV c 0, wV c 1, wV c 2, wV c 3] 44)
    unfold wV u64N at hb3
    have c0 := hb3.cell (i := 0) rfl
    have c1 := hb3.cell (i := 1) rfl
    have c2 := hb3.cell (i := 2) rfl
    have c3 := hb3.cell (i := 3) rfl
    have c4 := hb3.cell (i := 4) rfl
    have c5 := hb3.cell (i := 5) rfl
    have c6 := hb3.cell (i := 6) rfl
    have c7 := hb3.cell (i := 7) rfl
    have f0 := hb3.free 0
    have f1 := hb3.free 1
    have f2 := hb3.free 2
    have f3 := hb3.free 3
    have f4 := hb3.free 4
    have f5 := hb3.free 5
    have f6 := hb3.free 6
    have f7 := hb3.free 7
    have HB3 := Lib.hid hb3; clear hb3
    unfold narrowV wV u64N
    go_enter Tryz.func35, Tryz.ntmps35
    go_wp2
    have hA := (((Blk.new w [wV a 0, wV a 1, wV a 2, wV a 3] 44).alloc (.cells #[wV b 0, wV b 1, wV b 2, wV b 3] 44)).alloc (.cells #[wV c 0, wV c 1, wV c 2, wV c 3] 44))
    have hBB := ((blk_at (w.alloc (.cells #[wV a 0, wV a 1, wV a 2, wV a 3] 44)) (B := w.heap.size + 1) [wV b 0, wV b 1, wV b 2, wV b 3] 44 (by simp)).alloc (.cells #[wV c 0, wV c 1, wV c 2, wV c 3] 44))
    have hC := (blk_at ((w.alloc (.cells #[wV a 0, wV a 1, wV a 2, wV a 3] 44)).alloc (.cells #[wV b 0, wV b 1, wV b 2, wV b 3] 44)) (B := w.heap.size + 1 + 1) [wV c 0, wV c 1, wV c 2, wV c 3] 44 (by simp))
    have hg3 := gb_alloc (gb_alloc (gb_alloc (gb_refl w (some R)) (.cells #[wV a 0, wV a 1, wV a 2, wV a 3] 44)) (.cells #[wV b 0, wV b 1, wV b 2, wV b 3] 44)) (.cells #[wV c 0, wV c 1, wV c 2, wV c 3] 44)
    unfold wV u64N at hA hBB hC hg3
    have HB3' := HB3.out
    clear c0 c1 c2 c3 c4 c5 c6 c7 f0 f1 f2 f3 f4 f5 f6 f7 HB3 HB
    revert hA hBB hC hg3 HB3'
    have hs0 : w.heap.size + 3 ≤ (((w.alloc (.cells #[.int .u64 (Sc.wrd a 0 : Int), .int .u64 (Sc.wrd a 1 : Int), .int .u64 (Sc.wrd a 2 : Int), .int .u64 (Sc.wrd a 3 : Int)] 44)).alloc (.cells #[.int .u64 (Sc.wrd b 0 : Int), .int .u64 (Sc.wrd b 1 : Int), .int .u64 (Sc.wrd b 2 : Int), .int .u64 (Sc.wrd b 3 : Int)] 44)).alloc (.cells #[.int .u64 (Sc.wrd c 0 : Int), .int .u64 (Sc.wrd c 1 : Int), .int .u64 (Sc.wrd c 2 : Int), .int .u64 (Sc.wrd c 3 : Int)] 44)).heap.size := by simp
    revert hs0
    generalize ((w.alloc (.cells #[.int .u64 (Sc.wrd a 0 : Int), .int .u64 (Sc.wrd a 1 : Int), .int .u64 (Sc.wrd a 2 : Int), .int .u64 (Sc.wrd a 3 : Int)] 44)).alloc (.cells #[.int .u64 (Sc.wrd b 0 : Int), .int .u64 (Sc.wrd b 1 : Int), .int .u64 (Sc.wrd b 2 : Int), .int .u64 (Sc.wrd b 3 : Int)] 44)).alloc (.cells #[.int .u64 (Sc.wrd c 0 : Int), .int .u64 (Sc.wrd c 1 : Int), .int .u64 (Sc.wrd c 2 : Int), .int .u64 (Sc.wrd c 3 : Int)] 44) = W3
    intro hs0 hA hBB hC hg3 hR3
    have hR4 := (((((((hR3.set 0 (wV 0 0)).set 1 (wV 0 1)).set 2 (wV 0 2)).set 3 (wV 0 3)).set 4 (wV 0 4)).set 5 (wV 0 5)).set 6 (wV 0 6)).set 7 (wV 0 7)
    have hG4 := gb_set (gb_set (gb_set (gb_set (gb_set (gb_set (gb_set (gb_set hg3 0 (wV 0 0)) 1 (wV 0 1)) 2 (wV 0 2)) 3 (wV 0 3)) 4 (wV 0 4)) 5 (wV 0 5)) 6 (wV 0 6)) 7 (wV 0 7)
    have hgA := gb_set (gb_set (gb_set (gb_set (gb_set (gb_set (gb_set (gb_set (gb_refl W3 (some R)) 0 (wV 0 0)) 1 (wV 0 1)) 2 (wV 0 2)) 3 (wV 0 3)) 4 (wV 0 4)) 5 (wV 0 5)) 6 (wV 0 6)) 7 (wV 0 7)
    have hR5 : Blk _ R T (wds 0 8 ++ tl) := hR4
    have hA4 := hA.grown hgA (some_ne' (by omega))
    have hB4 := hBB.grown hgA (some_ne' (by omega))
    have hC4 := hC.grown hgA (some_ne' (by omega))
    simp only [wV0] at hR5 hG4 hA4 hB4 hC4
    clear hR4 hgA hA hBB hC hg3 hR3 hs0
    revert hR5 hG4 hA4 hB4 hC4
    generalize (((((((W3.setCell ⟨R, 0, none⟩ (.int .u64 0)).setCell ⟨R, 1, none⟩ (.int .u64 0)).setCell ⟨R, 2, none⟩ (.int .u64 0)).setCell ⟨R, 3, none⟩ (.int .u64 0)).setCell ⟨R, 4, none⟩ (.int .u64 0)).setCell ⟨R, 5, none⟩ (.int .u64 0)).setCell ⟨R, 6, none⟩ (.int .u64 0)).setCell ⟨R, 7, none⟩ (.int .u64 0) = W4
    intro hR5 hG4 hA4 hB4 hC4
    obtain ⟨w5, hcp, hg5, hb5⟩ := copy_words R (w.heap.size + 1 + 1) c T _ tl W4.drew hR5.drew hC4.drew hc
    have hGG := Lib.hid (gb_trans (gb_drew hG4) hg5)
    have HA := Lib.hid (hA4.drew.grown hg5 (some_ne' (by omega)))
    have HBB := Lib.hid (hB4.drew.grown hg5 (some_ne' (by omega)))
    have HR := Lib.hid hb5
    clear hb5 hg5 hR5 hG4 hA4 hB4 hC4
    have hcA := HA.out
    have a0 := hcA.cell (i := 0) rfl
    have a1 := hcA.cell (i := 1) rfl
    have a2 := hcA.cell (i := 2) rfl
    have a3 := hcA.cell (i := 3) rfl
    clear hcA
    go_region
    all_goals go_wp2
    have hz : Sc.part a b c 0 = c := by unfold Sc.part; rw [Nat.mul_zero, Nat.pow_zero, Nat.mod_one, Nat.zero_mul, Nat.add_zero]
    have HR0 : Hid (Blk w5 R T (wds (Sc.part a b c 0) 8 ++ tl)) := by rw [hz]; exact HR
    clear hz a0 a1 a2 a3
    go_loopw [22] (fun t wr => ∃ i : Nat, i ≤ 4 ∧ t = .int .i64 i ∧ w.grownBy wr (some R) ∧ Blk wr R T (wds (Sc.part a b c i) 8 ++ tl) ∧ Blk wr (w.heap.size + 1) 44 [.int .u64 (Sc.wrd b 0 : Int), .int .u64 (Sc.wrd b 1 : Int), .int .u64 (Sc.wrd b 2 : Int), .int .u64 (Sc.wrd b 3 : Int)]) (fun t _ => 4 - (intOf t).toNat)
    case atStart => exact ⟨0, by omega, rfl, hGG.out, HR0.out, HBB.out⟩
    case round =>
      clear hGG HR0 HBB HR HA hcp
      obtain ⟨i, hi, rfl, hg, hbR, hbB⟩ := hrel
      by_cases hlt : i < 4
      · have hix := narrow_index a i hlt
        have b0 := hbB.cell (i := 0) rfl
        have b1 := hbB.cell (i := 1) rfl
        have b2 := hbB.cell (i := 2) rfl
        have b3 := hbB.cell (i := 3) rfl
        have HG := Lib.hid hg; clear hg
        have HR := Lib.hid hbR; clear hbR
        have HBB := Lib.hid hbB; clear hbB
        obtain ⟨x, hx⟩ : ∃ x, x = Sc.wrd a i := ⟨_, rfl⟩
        have hxl : x < 18446744073709551616 := by rw [hx]; exact Sc.wrd_lt a i
        rw [← hx] at hix
        have HX := Lib.hid hx; clear hx
        have i0 : (i : Int) < 4 := by omega
        go_wp2
        clear b0 b1 b2 b3
        go_loopw [10, 27] (fun ot kt wr => ∃ k o M : Nat, k ≤ 4 ∧ o < 18446744073709551616 ∧ ot = .int .u64 o ∧ kt = .int .i64 k ∧ M + o * 2 ^ (64 * (i + k)) = Sc.part a b c i + x * (b % 2 ^ (64 * k)) * 2 ^ (64 * i) ∧ (∀ j, i + 4 ≤ j → Sc.wrd M j = Sc.wrd (Sc.part a b c i) j) ∧ w.grownBy wr (some R) ∧ Blk wr R T (wds M 8 ++ tl) ∧ Blk wr (w.heap.size + 1) 44 [.int .u64 (Sc.wrd b 0 : Int), .int .u64 (Sc.wrd b 1 : Int), .int .u64 (Sc.wrd b 2 : Int), .int .u64 (Sc.wrd b 3 : Int)]) (fun _ kt _ => 4 - (intOf kt).toNat)
        case atStart => exact ⟨0, 0, Sc.part a b c i, by omega, by decide, rfl, rfl, by simp [Nat.mod_one], fun _ _ => rfl, HG.out, HR.out, HBB.out⟩
        case round =>
          clear HG HR HBB hix
          obtain ⟨k, o, M, hk, hol, rfl, rfl, hM, hT, hg, hbR, hbB⟩ := hrel
          by_cases hkl : k < 4
          · have hix := narrow_index b k hkl
            obtain ⟨j, hj⟩ : ∃ j, j = i + k := ⟨_, rfl⟩
            have hji : (i : Int) + (k : Int) = (j : Int) := by omega
            have j7 : j < 8 := by omega
            obtain ⟨M', m1, m2, m3⟩ := Sc.mul_in M _ x b i k o hM
            rw [← hj] at m1 m2 m3
            have hol2 := Sc.over_lt x (Sc.wrd b k) (Sc.wrd M j) o hxl (Sc.wrd_lt _ _) (Sc.wrd_lt _ _) hol
            have hset := wds_set M M' 8 j j7 tl _ m1 m2
            have r0 := hbR.cell (wds_get M 8 j j7 tl)
            have f0 := hbR.free j
            have hmw := fun W => maw_any x (Sc.wrd b k) (Sc.wrd M j) o W hxl (Sc.wrd_lt _ _) (Sc.wrd_lt _ _) hol
            have hT2 : ∀ j', i + 4 ≤ j' → Sc.wrd M' j' = Sc.wrd (Sc.part a b c i) j' := fun j' hj' => by rw [m2 j' (by omega)]; exact hT j' hj'
            have m4 : M' + (x * Sc.wrd b k + Sc.wrd M j + o) / 18446744073709551616 * 2 ^ (64 * (i + (k + 1))) = Sc.part a b c i + x * (b % 2 ^ (64 * (k + 1))) * 2 ^ (64 * i) := by
              have e : i + (k + 1) = j + 1 := by omega
              rw [e]; exact m3
            have HS := Lib.hid (And.intro hset (And.intro m4 (And.intro hT2 hol2))); clear hset m1 m2 m3 m4 hT hT2 hM hol2
            have HMW := Lib.hid hmw; clear hmw
            have HG := Lib.hid hg; clear hg
            have HR := Lib.hid hbR; clear hbR
            have HBB := Lib.hid hbB; clear hbB
            have HJ := Lib.hid hj; clear hj
            unfold wV u64N at r0
            generalize (x * Sc.wrd b k + Sc.wrd M j + o) / 18446744073709551616 = o' at *
            generalize (x * Sc.wrd b k + Sc.wrd M j + o) % 18446744073709551616 = v' at *
            have k0 : (k : Int) < 4 := by omega
            go_wp2
            have hwr : IntKind.i64.wrap ((i : Int) + (k : Int)) = (j : Int) := by rw [hji]; exact IntWalk.i64_in _ (by omega)
            clear hji
            go_region_with (go_at_call 68; refine (HMW.out _).mono ?_; rintro e w' ⟨rfl, rfl⟩)
            clear hwr
            all_goals go_wp2
            go_roundw
            case rel =>
              refine ⟨k + 1, o', M', by omega, HS.out.2.2.2, rfl, by go_num, HS.out.2.1, HS.out.2.2.1, gb_drew (gb_set HG.out _ _), ?_, (HBB.out.other (by show ¬ R = w.heap.size + 1; omega) _).drew⟩
              have h := HR.out.set j (u64N v')
              rw [HS.out.1] at h
              exact h.drew
            case measure => simp [intOf]; omega
          · obtain rfl : k = 4 := by omega
            have hz4 : Sc.wrd M (i + 4) = 0 := by rw [hT (i + 4) (by omega)]; exact Sc.part_top a b c i (i + 4) hbb hc (by omega)
            obtain ⟨M', m1, m2, m3⟩ := Sc.mul_out M _ x b i o hbb hM hz4 hol
            have m4 : M' = Sc.part a b c (i + 1) := by rw [m3, Sc.part_next, HX.out]
            subst m4
            obtain ⟨j, hj⟩ : ∃ j, j = i + 4 := ⟨_, rfl⟩
            have hji : (i : Int) + 4 = (j : Int) := by omega
            have j7 : j < 8 := by omega
            rw [← hj] at m1 m2
            have hset := wds_set M (Sc.part a b c (i + 1)) 8 j j7 tl _ m1 m2
            have r0 := hbR.cell (wds_get M 8 j j7 tl)
            have f0 := hbR.free j
            have HS := Lib.hid hset; clear hset m1 m2 m3 hT hM hz4
            have HG := Lib.hid hg; clear hg
            have HR := Lib.hid hbR; clear hbR
            have HBB := Lib.hid hbB; clear hbB
            have HJ := Lib.hid hj; clear hj
            unfold wV u64N at r0
            go_wp2
            go_roundw
            case rel =>
              refine ⟨i + 1, by omega, by go_num, gb_set HG.out _ _, ?_, HBB.out.other (by show ¬ R = w.heap.size + 1; omega) _⟩
              have h := HR.out.set j (u64N o)
              rw [HS.out] at h
              exact h
            case measure => simp [intOf]; omega
      · obtain rfl : i = 4 := by omega
        rw [Sc.part_end a b c ha] at hbR
        have HG := Lib.hid hg; clear hg
        have HR := Lib.hid hbR; clear hbR hbB
        go_wp2
        go_end0
        exact ⟨rfl, HG.out, HR.out⟩
end Go.Proofs.YtmnlidfalhjghaaGreatDoor
