/- The kit's Pick, told whole: the number's rest; CopyBytes, of none too. -/
import Derived.Test.YtjfclcoppedmoaaPick
import Derived.Test.YtjfclcoppedmoaaAppendMake
import Derived.Test.YtjfclcoppedmoaaFlowS
import Derived.Deep.Cut
namespace Go.Proofs.Ytjfclcoppedmoaa
open Go.RowKit Ow

set_option maxHeartbeats 400000 in
theorem pick_is (x n : Int) (w : World) (hn : 1 ≤ n) (hn2 : n ≤ 1000000) (hx1 : -9223372036854775808 ≤ x) (hx2 : x ≤ 9223372036854775807) :
    Calls Try.prog 18 #[.int .i64 x, .int .i64 n] w fun e w' => e = .returned (.int .i64 (x % n)) ∧ w' = w := by
  have hn1 : ¬ n < 1 := by omega
  by_cases h0 : 0 ≤ x
  · obtain ⟨y, hy⟩ : ∃ y, y = x % n := ⟨_, rfl⟩
    have y0 : 0 ≤ y := by rw [hy]; exact Int.emod_nonneg _ (by omega)
    have y1 : y < n := by rw [hy]; exact Int.emod_lt_of_pos _ (by omega)
    rw [← hy]
    have ey : x % n = y := hy.symm
    clear hy
    go_enter Try.func18, Try.ntmps18
    go_wp2
    go_ret
    exact ⟨rfl, rfl⟩
  · obtain ⟨y, hy⟩ : ∃ y, y = x.tmod n := ⟨_, rfl⟩
    have y0 : y ≤ 0 := by rw [hy]; have := Int.tmod_nonneg (a := -x) n (by omega); rw [Int.neg_tmod] at this; omega
    have y1 : -n < y := by rw [hy]; have := Int.tmod_lt_of_pos (-x) (show 0 < n by omega); rw [Int.neg_tmod] at this; omega
    have hxy : x % n = y % n := by
      have h1 : y + n * x.tdiv n = x := by rw [hy]; exact Int.tmod_add_mul_tdiv x n
      conv => lhs; rw [← h1]
      rw [Int.add_mul_emod_self_left]
    have ey : x.tmod n = y := hy.symm
    clear hy
    by_cases hz : y < 0
    · have hr : Hid (x % n = y + n) := by
        show x % n = y + n
        rw [hxy, ← Int.add_emod_right y n]
        exact Int.emod_eq_of_lt (by omega) (by omega)
      clear hxy
      rw [hr.out]
      go_enter Try.func18, Try.ntmps18
      go_wp2
      go_ret
      exact ⟨rfl, rfl⟩
    · have hr : Hid (x % n = y) := by
        show x % n = y
        rw [hxy]
        exact Int.emod_eq_of_lt (by omega) (by omega)
      clear hxy
      rw [hr.out]
      go_enter Try.func18, Try.ntmps18
      go_wp2
      go_ret
      exact ⟨rfl, rfl⟩
set_option maxHeartbeats 2000000 in
theorem copyB_own (B n cap : Nat) (a : Option Addr) (l : List Nat) (w : World) (hl : l.length = n) (hn : n ≤ 1000000) (hP : BytesAt w B a cap l) :
    Calls Try.prog 17 #[.slice a n cap] w fun e w' => ∃ v, e = .returned v ∧ w.grownBy w' none ∧ w'.ownsRow w.heap.size 5 1 v n (l.map u8N) := by
  obtain ⟨v2, w2, hr2, ho2, hg2⟩ := append_bytes w w.heap.size 0 B cap n (.slice none 0 0) [] a l (World.ownsRow_nil w _ 5 1) hl hP (by omega) (Nat.le_refl _)
  rw [Nat.zero_add, List.nil_append] at ho2
  have HS := Lib.hid (And.intro ho2 hg2); clear ho2 hg2
  have HR := Lib.hid hr2; clear hr2
  go_enter Try.func17, Try.ntmps17
  go_upto_region 2 with (fail)
  refine wp_region_lit ?_
  refine Fg.wpl_value (v := .slice none 0 0) (w' := w) rfl (Fg.run_move rfl rfl) ?_
  refine Fg.wpl_value (v := .slice a n cap) (w' := w) rfl (Fg.run_move rfl rfl) ?_
  refine wpList_append_run rfl (.tmp 4) (.tmp 5) 23 rfl rfl _ _ rfl rfl _ _ HR.out ?_
  refine Fg.wpl_value (v := v2) (w' := w2) rfl (Fg.run_assign rfl rfl) ?_
  refine wpList_nil ?_
  simp only [Act.put, List.setIfInBounds_toArray, List.set_cons_succ, List.set_cons_zero]
  go_wp2
  go_ret
  exact ⟨v2, rfl, HS.out.2, HS.out.1⟩
end Go.Proofs.Ytjfclcoppedmoaa
