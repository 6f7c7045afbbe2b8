/- Whether a vector has all of another one; a dot. -/
import Derived.Test.YtohcoihdijemfaaVePlace
import Derived.Test.YtohcoihdijemfaaVeRight
namespace Go.Proofs.Ytohcoihdijemfaa
open Go.RowKit Ve
namespace Ve
set_option maxHeartbeats 400000 in
theorem covers_any (B1 B2 n1 n2 c1 c2 : Nat) (a1 a2 : Option Addr) (l1 l2 : List D) (w : World) (hn1 : l1.length = n1) (hn2 : l2.length = n2) (h1 : DotsAt w B1 a1 l1) (h2 : DotsAt w B2 a2 l2) (hr : Rt 0 l1) (hc : n2 < 9223372036854775808) :
    Calls Try.prog 68 #[.slice a1 n1 c1, .slice a2 n2 c2] w fun e w' => e = .returned (.bool (covB l1 l2)) ∧ w.grownBy w' none := by
  have H1 := Lib.hid h1; clear h1
  have H2 := Lib.hid h2; clear h2
  have HN := Lib.hid (And.intro hn1 hn2); clear hn1 hn2
  obtain ⟨R, HR⟩ : ∃ R, Hid (R = covB l1 l2) := ⟨_, rfl⟩
  rw [← HR.out]
  go_enter Try.func68, Try.ntmps68
  go_wp2
  go_loopw [9] (fun i wr => ∃ (k : Nat), k ≤ n2 ∧ i = .int .i64 k ∧ Hid (w.grownBy wr none ∧ R = covB l1 (l2.drop k))) (fun i _ => n2 - (intOf i).toNat)
  case atStart => exact ⟨0, by omega, rfl, gb_refl _ _, HR.out⟩
  case round =>
    obtain ⟨k, hk, rfl, HI⟩ := hrel
    by_cases hlt : k < n2
    · obtain ⟨pb, po, rfl, hpb, hcs⟩ := (H2.out.stay HI.out.1).cells.resolve_left (by rw [HN.out.2]; omega)
      obtain ⟨k1, k2⟩ := hcs k (by rw [HN.out.2]; exact hlt)
      clear hcs
      have hd := drop_at l2 k (by rw [HN.out.2]; exact hlt)
      obtain ⟨x, y, hxy⟩ : ∃ x y, l2.getD k z0 = (x, y) := ⟨_, _, rfl⟩
      rw [hxy] at k1 k2 hd
      simp only at k1 k2
      have hfin : R = (decide (y ≤ up l1 x) && covB l1 (l2.drop (k + 1))) := by rw [HI.out.2, hd, covB]
      have HF := Lib.hid hfin; clear hfin hd hxy
      have hi : (k : Int) < (n2 : Int) := by omega
      have hS : ∀ w', w.grownBy w' none → Calls Try.prog 78 #[.slice a1 n1 c1, .int .i64 x] w' fun e w'' => e = .returned (.int .i64 (up l1 x)) ∧ w'.grownBy w'' none := fun w' hg => seen_any B1 n1 c1 a1 l1 x w' HN.out.1 (H1.out.stay hg) hr
      generalize up l1 x = u at hS HF
      have HS := Lib.hid hS; clear hS
      obtain ⟨W1, hW1⟩ : ∃ W1, W1 = (wr.alloc (.cells #[iV x, iV y] 43)) := ⟨_, rfl⟩
      have hg1 : w.grownBy W1 none := by rw [hW1]; exact gb_alloc HI.out.1 _
      have hB : Blk W1 wr.heap.size 43 [iV x, iV y] := by rw [hW1]; exact Blk.new wr _ _
      have HG1 := Lib.hid (And.intro hg1 hB); clear hg1 hB
      generalize hN : wr.heap.size = N at HG1
      by_cases hyu : u < y
      · have hr2 : R = false := by rw [HF.out, decide_eq_false (by omega)]; rfl
        have HRF := Lib.hid hr2; clear hr2
        have hyb : decide (u < y) = true := decide_eq_true hyu
        go_wp2_with fail
        rw [← hW1]
        have m1 := HG1.out.2.cell (i := 0) rfl
        have m2 := HG1.out.2.cell (i := 1) rfl
        clear hW1 k1 k2 hN
        go_region_with (go_at_call 78; refine (HS.out _ (gb_drew HG1.out.1)).mono ?_; rintro e w3 ⟨rfl, hg3⟩; have m3 : w3.cell? ⟨N, 1, none⟩ = some (iV y) := ((HG1.out.2.drew.grown hg3 (by simp)).cell (i := 1) rfl); have HG3 := Lib.hid (gb_trans (gb_drew HG1.out.1) hg3); clear hg3 m1 m2)
        all_goals
          go_wp2
          go_ret
          exact ⟨by rw [HRF.out]; rfl, HG3.out⟩
      · have hr2 : R = covB l1 (l2.drop (k + 1)) := by rw [HF.out, decide_eq_true (by omega)]; rfl
        have HRT := Lib.hid hr2; clear hr2
        have hyb : decide (u < y) = false := decide_eq_false hyu
        go_wp2_with fail
        rw [← hW1]
        have m1 := HG1.out.2.cell (i := 0) rfl
        have m2 := HG1.out.2.cell (i := 1) rfl
        clear hW1 k1 k2 hN
        go_region_with (go_at_call 78; refine (HS.out _ (gb_drew HG1.out.1)).mono ?_; rintro e w3 ⟨rfl, hg3⟩; have m3 : w3.cell? ⟨N, 1, none⟩ = some (iV y) := ((HG1.out.2.drew.grown hg3 (by simp)).cell (i := 1) rfl); have HG3 := Lib.hid (gb_trans (gb_drew HG1.out.1) hg3); clear hg3 m1 m2)
        all_goals
          go_wp2
          go_roundw
          case rel => exact ⟨k + 1, by omega, by go_num, HG3.out, HRT.out⟩
          case measure => simp [intOf]; omega
    · obtain rfl : k = n2 := by omega
      have hr : R = true := by rw [HI.out.2, drop_end l2 k (by rw [HN.out.2]; omega)]; rfl
      have HRT := Lib.hid hr; clear hr
      go_wp2
      go_ret
      exact ⟨by rw [HRT.out]; rfl, HI.out.1⟩
def cvB (a b : List D) : Bool := rtB 0 a && rtB 0 b && covB a b
def hasB (v : List D) (d : D) : Bool := rtB 0 v && okD d && decide (d.2 ≤ up v d.1)
theorem hasB_is (v : List D) (d : D) : hasB v d = cvB v [d] := by
  simp [hasB, cvB, rtB_one, covB]
set_option maxHeartbeats 400000 in
theorem vcovers_any (B1 B2 n1 n2 c1 c2 : Nat) (a1 a2 : Option Addr) (l1 l2 : List D) (w : World) (hn1 : l1.length = n1) (hn2 : l2.length = n2) (h1 : DotsAt w B1 a1 l1) (h2 : DotsAt w B2 a2 l2) (hc1 : n1 < 9223372036854775808) (hc2 : n2 < 9223372036854775808) :
    Calls Try.prog 55 #[.slice a1 n1 c1, .slice a2 n2 c2] w fun e w' => e = .returned (.bool (cvB l1 l2)) ∧ w.grownBy w' none := by
  have HA := Lib.hid (fun w' (hg : w.grownBy w' none) => vright_any B1 n1 c1 a1 l1 w' hn1 (h1.stay hg) hc1)
  have HB := Lib.hid (fun w' (hg : w.grownBy w' none) => vright_any B2 n2 c2 a2 l2 w' hn2 (h2.stay hg) hc2)
  have HC := Lib.hid (fun (hr : rtB 0 l1 = true) w' (hg : w.grownBy w' none) => covers_any B1 B2 n1 n2 c1 c2 a1 a2 l1 l2 w' hn1 hn2 (h1.stay hg) (h2.stay hg) ((rtB_iff _ _).1 hr) hc2)
  clear h1 h2 hn1 hn2
  obtain ⟨R, hR⟩ : ∃ R, R = cvB l1 l2 := ⟨_, rfl⟩
  rw [← hR]
  unfold cvB at hR
  generalize covB l1 l2 = z at hR HC
  generalize rtB 0 l2 = y at hR HB
  cases hx : rtB 0 l1 with
  | false =>
    rw [hx] at hR HA
    have HR := Lib.hid (show R = false from hR); clear hR
    clear HB HC hx
    go_enter Try.func55, Try.ntmps55
    go_wp2_with fail
    refine (HA.out _ (gb_refl _ _)).mono ?_
    rintro e w1 ⟨rfl, hg⟩
    have HG := Lib.hid hg; clear hg
    go_wp2
    go_ret
    exact ⟨by rw [HR.out]; rfl, HG.out⟩
  | true =>
    replace HC := Lib.hid (HC.out hx)
    rw [hx] at hR HA
    clear hx
    cases y with
    | false =>
      have HR := Lib.hid (show R = false from hR); clear hR
      clear HC
      go_enter Try.func55, Try.ntmps55
      go_wp2_with fail
      refine (HA.out _ (gb_refl _ _)).mono ?_
      rintro e w1 ⟨rfl, hg⟩
      have HG := Lib.hid hg; clear hg
      go_wp2_with fail
      refine (HB.out _ HG.out).mono ?_
      rintro e w2 ⟨rfl, hg⟩
      have HG2 := Lib.hid (gb_trans HG.out hg); clear hg
      go_wp2
      go_ret
      exact ⟨by rw [HR.out]; rfl, HG2.out⟩
    | true =>
      have HR := Lib.hid (show R = z from by simpa using hR); clear hR
      go_enter Try.func55, Try.ntmps55
      go_wp2_with fail
      refine (HA.out _ (gb_refl _ _)).mono ?_
      rintro e w1 ⟨rfl, hg⟩
      have HG := Lib.hid hg; clear hg
      go_wp2_with fail
      refine (HB.out _ HG.out).mono ?_
      rintro e w2 ⟨rfl, hg⟩
      have HG2 := Lib.hid (gb_trans HG.out hg); clear hg
      go_wp2_with fail
      refine (HC.out _ HG2.out).mono ?_
      rintro e w3 ⟨rfl, hg⟩
      have HG3 := Lib.hid (gb_trans HG2.out hg); clear hg
      go_wp2
      go_ret
      exact ⟨by rw [HR.out]; rfl, HG3.out⟩
theorem dots_one (w : World) (x y : Int) (T : TypeId) : DotsAt (w.alloc (.cells #[iV x, iV y] T)) (w.heap.size + 1) (some ⟨w.heap.size, 0, none⟩) [(x, y)] := by
  have hB : Blk (w.alloc (.cells #[iV x, iV y] T)) w.heap.size T [iV x, iV y] := Blk.new w _ _
  refine ⟨by simp, Or.inr ⟨w.heap.size, 0, rfl, by omega, fun i hi => ?_⟩⟩
  obtain rfl : i = 0 := by simp at hi; omega
  exact ⟨hB.cell (i := 0) rfl, hB.cell (i := 1) rfl⟩
set_option maxHeartbeats 400000 in
theorem has_any (B1 n1 c1 : Nat) (a1 : Option Addr) (l1 : List D) (x y : Int) (w : World) (hn1 : l1.length = n1) (h1 : DotsAt w B1 a1 l1) (hc1 : n1 < 9223372036854775808) :
    Calls Try.prog 36 #[.slice a1 n1 c1, .agg #[iV x, iV y]] w fun e w' => e = .returned (.bool (hasB l1 (x, y))) ∧ w.grownBy w' none := by
  have HC := Lib.hid (fun w' (hg : w.grownBy w' none) B2 a2 c2 (h2 : DotsAt w' B2 a2 [(x, y)]) => vcovers_any B1 B2 n1 1 c1 c2 a1 a2 l1 [(x, y)] w' hn1 rfl (h1.stay hg) h2 hc1 (by decide))
  rw [hasB_is]
  generalize cvB l1 [(x, y)] = R at HC
  clear h1 hn1
  have hD : DotsAt ((w.alloc (.cells #[iV x, iV y] 43)).alloc (.cells #[iV x, iV y] 43)) (w.heap.size + 1 + 1) (some ⟨w.heap.size + 1, 0, none⟩) [(x, y)] := by
    have h := dots_one (w.alloc (.cells #[iV x, iV y] 43)) x y 43
    rwa [World.size_alloc] at h
  have hc := HC.out _ (gb_alloc (gb_alloc (gb_refl _ _) _) _) _ _ 1 hD
  clear hD HC
  have HC := Lib.hid hc
  clear hc
  go_enter Try.func36, Try.ntmps36
  go_wp2_with fail
  refine HC.out.mono ?_
  rintro e w3 ⟨rfl, hg⟩
  have HG3 := Lib.hid hg; clear hg
  go_wp2
  go_ret
  exact ⟨rfl, gb_trans (gb_alloc (gb_alloc (gb_refl _ _) _) _) HG3.out⟩
end Ve
end Go.Proofs.Ytohcoihdijemfaa
