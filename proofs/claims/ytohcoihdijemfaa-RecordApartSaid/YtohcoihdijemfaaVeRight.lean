/- Whether a row is a vector. -/
import Derived.Test.YtohcoihdijemfaaVeMem
import Derived.WalkKit
import Derived.Lib.Hide
import Derived.WalkSpells
import Derived.WalkLawsBesides
import Derived.Outline
namespace Go.Proofs.Ytohcoihdijemfaa
open Go.RowKit Ve
namespace Ve
set_option maxHeartbeats 400000 in
theorem right_any (B n c : Nat) (a : Option Addr) (l : List D) (w : World) (hn : l.length = n) (h : DotsAt w B a l) (hc : n < 9223372036854775808) :
    Calls Try.prog 77 #[.slice a n c] w fun e w' => e = .returned (.bool (rtB 0 l)) ∧ w.grownBy w' none := by
  have H := Lib.hid h; clear h
  have HN := Lib.hid hn; clear hn
  obtain ⟨R, HR⟩ : ∃ R, Hid (R = rtB 0 l) := ⟨_, rfl⟩
  rw [← HR.out]
  go_enter Try.func77, Try.ntmps77
  go_wp2
  go_loopw [3, 8] (fun last i wr => ∃ (k : Nat) (b : Int), k ≤ n ∧ 0 ≤ b ∧ i = .int .i64 k ∧ last = .int .i64 b ∧ Hid (w.grownBy wr none ∧ R = rtB b (l.drop k))) (fun _ i _ => n - (intOf i).toNat)
  case atStart => exact ⟨0, 0, by omega, by omega, rfl, rfl, gb_refl _ _, HR.out⟩
  case round =>
    obtain ⟨k, b, hk, hb, rfl, rfl, HI⟩ := hrel
    by_cases hlt : k < n
    · obtain ⟨pb, po, rfl, hpb, hcs⟩ := (H.out.stay HI.out.1).cells.resolve_left (by rw [HN.out]; omega)
      obtain ⟨k1, k2⟩ := hcs k (by rw [HN.out]; exact hlt)
      clear hcs
      have hd := drop_at l k (by rw [HN.out]; exact hlt)
      obtain ⟨x, y, hxy⟩ : ∃ x y, l.getD k z0 = (x, y) := ⟨_, _, rfl⟩
      rw [hxy] at k1 k2 hd
      simp only at k1 k2
      have HD := Lib.hid hd; clear hd hxy
      have hi : (k : Int) < (n : Int) := by omega
      have hfin : ∀ (b2 : Bool), (decide (b < x) && decide (x ≤ 8) && decide (1 ≤ y) && decide (y ≤ 1073741824)) = b2 → R = (b2 && rtB x (l.drop (k + 1))) := fun b2 hb2 => by rw [HI.out.2, HD.out, rtB, hb2]
      have HF := Lib.hid hfin; clear hfin
      by_cases h1 : x ≤ b
      · have hr : R = false := by rw [HF.out false (by simp; omega)]; rfl
        have HRF := Lib.hid hr; clear hr
        go_wp2
        go_ret
        exact ⟨by rw [HRF.out]; rfl, gb_alloc HI.out.1 _⟩
      by_cases h2 : 8 < x
      · have hr : R = false := by rw [HF.out false (by simp; omega)]; rfl
        have HRF := Lib.hid hr; clear hr
        go_wp2
        go_ret
        exact ⟨by rw [HRF.out]; rfl, gb_alloc HI.out.1 _⟩
      by_cases h3 : y < 1
      · have hr : R = false := by rw [HF.out false (by simp; omega)]; rfl
        have HRF := Lib.hid hr; clear hr
        go_wp2
        go_ret
        exact ⟨by rw [HRF.out]; rfl, gb_alloc HI.out.1 _⟩
      by_cases h4 : 1073741824 < y
      · have hr : R = false := by rw [HF.out false (by simp; omega)]; rfl
        have HRF := Lib.hid hr; clear hr
        go_wp2
        go_ret
        exact ⟨by rw [HRF.out]; rfl, gb_alloc HI.out.1 _⟩
      have hr : R = rtB x (l.drop (k + 1)) := by rw [HF.out true (by simp; omega)]; rfl
      have HRT := Lib.hid hr; clear hr
      go_wp2
      go_roundw
      case rel => exact ⟨k + 1, x, by omega, by omega, by go_num, rfl, gb_alloc HI.out.1 _, HRT.out⟩
      case measure => simp [intOf]; omega
    · obtain rfl : k = n := by omega
      have hr : R = true := by rw [HI.out.2, drop_end l k (by rw [HN.out]; omega)]; rfl
      have HRT := Lib.hid hr; clear hr
      go_wp2
      go_ret
      exact ⟨by rw [HRT.out]; rfl, HI.out.1⟩
theorem vright_any (B n c : Nat) (a : Option Addr) (l : List D) (w : World) (hn : l.length = n) (h : DotsAt w B a l) (hc : n < 9223372036854775808) :
    Calls Try.prog 67 #[.slice a n c] w fun e w' => e = .returned (.bool (rtB 0 l)) ∧ w.grownBy w' none := by
  have H := Lib.hid h; clear h
  have HN := Lib.hid hn; clear hn
  obtain ⟨R, HR⟩ : ∃ R, Hid (R = rtB 0 l) := ⟨_, rfl⟩
  rw [← HR.out]
  go_enter Try.func67, Try.ntmps67
  go_wp2_with fail
  refine (right_any B n c a l _ HN.out H.out hc).mono ?_
  rintro e w' ⟨rfl, hg⟩
  rw [← HR.out]
  have HG := Lib.hid hg; clear hg
  go_wp2
  go_ret
  exact ⟨rfl, HG.out⟩
end Ve
end Go.Proofs.Ytohcoihdijemfaa
