/- The law's own examples; whether rows are few enough. -/
import Derived.Test.YtkffbaihknhefaaGreatVeState
namespace Go.Proofs.YtkffbaihknhefaaGreat
open Go.RowKit Ve
namespace Ve
def ex1 : List D := [(1, 3), (4, 1)]
def ex2 : List D := [(1, 2), (2, 7)]
def ex3 : List D := [(2, 1), (1, 1)]
def exJ : List D := [(1, 3), (2, 7), (4, 1)]
theorem ex_join : joinF [ex1, ex2] = exJ := by decide +kernel
theorem ex_none : joinF [ex3] = [] := by decide +kernel
set_option maxHeartbeats 1000000 in
set_option maxRecDepth 100000 in
theorem awake7_any (w : World) : Calls Tryz.prog 4 #[] w fun e w' => e = .returned (.bool true) ∧ w.grownBy w' none := by
  have hS0 : ST w [(some ⟨w.heap.size + 1, 0, none⟩, ex2), (some ⟨w.heap.size, 0, none⟩, ex1)] ((w.alloc (.cells #[.int .i64 1, .int .i64 3, .int .i64 4, .int .i64 1] 25)).alloc (.cells #[.int .i64 1, .int .i64 2, .int .i64 2, .int .i64 7] 25)) := by
    have h1 := (ST.base (w := w)).new ex1 25 [.int .i64 1, .int .i64 3, .int .i64 4, .int .i64 1] rfl (by decide)
    have h2 := h1.new ex2 25 [.int .i64 1, .int .i64 2, .int .i64 2, .int .i64 7] rfl (by decide)
    simpa using h2
  have hJ := st_join2 2 2 (Lib.hid hS0) (a1 := some ⟨w.heap.size, 0, none⟩) (l1 := ex1) (a2 := some ⟨w.heap.size + 1, 0, none⟩) (l2 := ex2) (by simp) (by simp)
  rw [show ((w.alloc (.cells #[.int .i64 1, .int .i64 3, .int .i64 4, .int .i64 1] 25)).alloc (.cells #[.int .i64 1, .int .i64 2, .int .i64 2, .int .i64 7] 25)).heap.size = w.heap.size + 1 + 1 by simp, ex_join] at hJ
  have HJ := Lib.hid hJ
  clear hJ hS0
  go_enter Tryz.func4, Tryz.ntmps4
  go_wp2_with fail
  refine HJ.out.mono ?_
  rintro e w1 ⟨a, c, rfl, HS1⟩
  clear HJ
  have hJ := st_join1 2 (Lib.hid (HS1.out.new ex3 25 [.int .i64 2, .int .i64 1, .int .i64 1, .int .i64 1] rfl (by decide))) (List.mem_cons_self ..)
  rw [show (w1.alloc (.cells [.int .i64 2, .int .i64 1, .int .i64 1, .int .i64 1].toArray 25)).heap.size = w1.heap.size + 1 by simp, ex_none] at hJ
  have HJ := Lib.hid hJ
  clear hJ
  go_wp2_with fail
  refine HJ.out.mono ?_
  rintro e w2 ⟨a2, c2, rfl, HS2⟩
  clear HJ
  have hJ := st_same true c 3 (Lib.hid (HS2.out.new exJ 25 [.int .i64 1, .int .i64 3, .int .i64 2, .int .i64 7, .int .i64 4, .int .i64 1] rfl (by decide))) (a1 := a) (l1 := exJ) (by simp) (List.mem_cons_self ..) (by decide)
  have HJ := Lib.hid hJ
  clear hJ
  go_wp2_with fail
  refine HJ.out.mono ?_
  rintro e w3 ⟨rfl, HS3⟩
  clear HJ
  have HJ := Lib.hid (st_has true c 1 3 HS3 (a1 := a) (l1 := exJ) (by simp) (by decide))
  go_wp2_with fail
  refine HJ.out.mono ?_
  rintro e w4 ⟨rfl, HS4⟩
  clear HJ
  have HJ := Lib.hid (st_has false c 1 4 HS4 (a1 := a) (l1 := exJ) (by simp) (by decide))
  go_wp2_with fail
  refine HJ.out.mono ?_
  rintro e w5 ⟨rfl, HS5⟩
  clear HJ
  have HJ := Lib.hid (st_has false c 3 1 HS5 (a1 := a) (l1 := exJ) (by simp) (by decide))
  go_wp2_with fail
  refine HJ.out.mono ?_
  rintro e w6 ⟨rfl, HS6⟩
  clear HJ
  go_wp2
  go_ret
  exact ⟨rfl, HS6.out.1⟩
def SmallOut (R : List (List D)) (w : World) (e : Ending) (w' : World) : Prop := ∃ b : Bool, e = .returned (.bool b) ∧ w = w' ∧ (b = true → R.length ≤ 20 ∧ ∀ i, i < R.length → (R.getD i []).length ≤ 150)
set_option maxHeartbeats 1000000 in
/-- small: whether there are few enough; it only reads -/
theorem small_any (B n cap : Nat) (a : Option Addr) (R : List (List D)) (w : World) (hn : R.length = n) (h : DRowsAt w B a R) (hc : n < 9223372036854775808) (hl : ∀ i, i < R.length → (R.getD i []).length < 9223372036854775808) :
    Calls Tryz.prog 10 #[.slice a n cap] w (SmallOut R w) := by
  have H := Lib.hid h; clear h
  have HN := Lib.hid (And.intro hn hl); clear hn hl
  obtain ⟨Q, hQ⟩ : ∃ Q, Q = SmallOut R w := ⟨_, rfl⟩
  rw [← hQ]
  have HQ := Lib.hid hQ; clear hQ
  go_enter Tryz.func10, Tryz.ntmps10
  go_wp2
  go_loop [3, 4] (fun s i => ∃ (k : Nat) (t : Int), k ≤ n ∧ k ≤ 21 ∧ i = .int .i64 k ∧ s = .int .i64 t ∧ 0 ≤ t ∧ t ≤ k * 200 ∧ Hid (∀ i, i < k → ((min (R.getD i []).length 200 : Nat) : Int) ≤ t)) (fun _ i => n - (intOf i).toNat)
  case atStart => exact ⟨0, 0, by omega, by omega, rfl, rfl, by omega, by omega, fun i hi => by omega⟩
  case round =>
    obtain ⟨k, t, hk, hk21, rfl, rfl, ht0, ht, HT⟩ := hrel
    by_cases hlt : k < n
    · have hi : (k : Int) < (n : Int) := by omega
      by_cases h21 : k < 21
      · obtain ⟨pb, po, rfl, _, hcs⟩ := H.out.cells.resolve_left (by rw [HN.out.1]; omega)
        obtain ⟨ai, ci, k1, _⟩ := hcs k (by rw [HN.out.1]; exact hlt)
        clear hcs
        have h21b : (k : Int) < 21 := by omega
        obtain ⟨m, hm⟩ : ∃ m, m = (R.getD k []).length := ⟨_, rfl⟩
        rw [← hm] at k1
        have HM := Lib.hid hm; clear hm
        go_wp2
        go_round
        case rel => exact ⟨k + 1, t + min (m : Int) 200, by omega, by omega, by go_num, rfl, by omega, by omega, fun i hi => by
          rcases Nat.lt_or_ge i k with h | h
          · have := HT.out i h; omega
          · obtain rfl : i = k := by omega
            rw [← HM.out]; omega⟩
        case measure => simp [intOf]; omega
      · obtain rfl : k = 21 := by omega
        have HO : Hid (Q (.returned (.bool false)) w) := by rw [HQ.out]; exact ⟨false, rfl, rfl, fun h => by cases h⟩
        have hn20 : ¬ (n : Int) ≤ 20 := by omega
        go_wp2
        exact HO.out
    · obtain rfl : k = n := by omega
      have HO : Hid (∀ b : Bool, (b = true → k ≤ 20 ∧ t ≤ 150) → Q (.returned (.bool b)) w) := fun b hb => by
        rw [HQ.out]
        exact ⟨b, rfl, rfl, fun h => ⟨by rw [HN.out.1]; exact (hb h).1, fun i hi => by
          have h1 := HT.out i (by rw [← HN.out.1]; exact hi)
          have h2 := (hb h).2
          omega⟩⟩
      by_cases h20 : (k : Int) ≤ 20
      · by_cases h150 : t ≤ 150
        · go_wp2
          exact HO.out true (fun _ => ⟨by omega, h150⟩)
        · go_wp2
          exact HO.out false (fun h => by cases h)
      · go_wp2
        exact HO.out false (fun h => by cases h)
end Ve
end Go.Proofs.YtkffbaihknhefaaGreat
