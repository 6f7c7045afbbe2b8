/- scalar: is: a wide number held against a narrow one. -/
import Derived.Test.YtmnlidfalhjghaaGreatDoorScFill
import Derived.ChangeKeysEq
namespace Go.Proofs.YtmnlidfalhjghaaGreatDoor
open Go.RowKit Ow

theorem sc_eqItems {P : Program} (w : World) (d : Nat) {e : TypeId} {k : IntKind} (he : P.plainKey e = true) (hu : P.underlying e = some (.int k)) (f g : Nat → Int) (xs ys : Array Value) (is : List Nat)
    (hx : ∀ i ∈ is, xs[i * 1]? = some (.int k (f i))) (hy : ∀ i ∈ is, ys[i * 1]? = some (.int k (g i))) : (Op.eqItems (d + 1) e 1 xs ys is).run P w = .ok (is.all fun i => f i == g i) w := by
  induction is with
  | nil => simp [Op.eqItems]
  | cons i r ih =>
    have h1 := run_part_plain w he (hx i (List.mem_cons_self ..))
    have h2 := run_part_plain w he (hy i (List.mem_cons_self ..))
    simp only [Op.eqItems, Sem.run_bind, h1, h2, Result.andThen_ok, run_equalIn_int w d e k k (f i) (g i) hu, List.all_cons]
    cases hfg : f i == g i
    · simp
    · simpa using ih (fun j hj => hx j (List.mem_cons_of_mem _ hj)) (fun j hj => hy j (List.mem_cons_of_mem _ hj))
theorem sc_info_u64 : ∃ i, Tryz.prog.info? 40 = some i := by
  cases h : Tryz.prog.info? 40 with
  | none => exact absurd h (by have : (Tryz.prog.info? 40).isSome = true := by kernel_rfl
                               intro e; rw [e] at this; cases this)
  | some i => exact ⟨i, rfl⟩
theorem eql_narrow (x0 x1 x2 x3 y0 y1 y2 y3 : Int) (w : World) :
    (binOp .eql 44 (.agg #[.int .u64 x0, .int .u64 x1, .int .u64 x2, .int .u64 x3]) (.agg #[.int .u64 y0, .int .u64 y1, .int .u64 y2, .int .u64 y3])).run Tryz.prog w = .ok (.bool (x0 == y0 && (x1 == y1 && (x2 == y2 && x3 == y3)))) w := by
  obtain ⟨j, hj⟩ := sc_info_u64
  have hc : Tryz.prog.cellsOf 40 = 1 := by kernel_rfl
  rw [run_eql_struct, run_equalIn_array w 9999 _ _ Tryz.underlying44 hj, hc,
    sc_eqItems w 9998 (by kernel_rfl) Tryz.underlying40 (fun i => [x0, x1, x2, x3].getD i 0) (fun i => [y0, y1, y2, y3].getD i 0) _ _ _
      (fun i hi => by
        have := List.mem_range.1 hi
        obtain rfl | rfl | rfl | rfl : i = 0 ∨ i = 1 ∨ i = 2 ∨ i = 3 := by omega
        all_goals rfl)
      (fun i hi => by
        have := List.mem_range.1 hi
        obtain rfl | rfl | rfl | rfl : i = 0 ∨ i = 1 ∨ i = 2 ∨ i = 3 := by omega
        all_goals rfl)]
  simp [List.range, List.range.loop]
theorem same_words (m n : Nat) (hm : m < 2 ^ 256) (hn : n < 2 ^ 256) :
    (((Sc.wrd m 0 : Int) == (Sc.wrd n 0 : Int)) && (((Sc.wrd m 1 : Int) == (Sc.wrd n 1 : Int)) && (((Sc.wrd m 2 : Int) == (Sc.wrd n 2 : Int)) && ((Sc.wrd m 3 : Int) == (Sc.wrd n 3 : Int))))) = decide (m = n) := by
  rw [Bool.eq_iff_iff]
  simp only [Bool.and_eq_true, beq_iff_eq, decide_eq_true_iff]
  constructor
  · rintro ⟨h0, h1, h2, h3⟩
    rw [Sc.of4 m hm, Sc.of4 n hn]
    omega
  · rintro rfl; exact ⟨rfl, rfl, rfl, rfl⟩
theorem top_zero (n j : Nat) (h : n < 2 ^ 256) (hj : 4 ≤ j) : Sc.wrd n j = 0 := by
  have h2 : (2 : Nat) ^ 256 ≤ 2 ^ (64 * j) := Nat.pow_le_pow_right (by decide) (by omega)
  unfold Sc.wrd
  rw [Nat.div_eq_of_lt (by omega)]
theorem arr_at (R o cap : Nat) : ∀ w, (Instr.arrayAt 44 (.slice (some ⟨R, o, none⟩) 4 cap)).run Tryz.prog w = .ok (.pointer (some ⟨R, o, none⟩)) w := by
  intro w
  simp [Instr.arrayAt, run_underlying Tryz.underlying44]
set_option maxRecDepth 100000 in
set_option maxHeartbeats 1600000 in
theorem is_any (R m n : Nat) (T : TypeId) (tl : List Value) (w : World) (hm : m < 2 ^ 256) (hn : n < 2 ^ 256) (hb : Blk w R T (wds m 8 ++ tl)) :
    Calls Tryz.prog 29 #[.pointer (some ⟨R, 0, none⟩), narrowV n] w fun e w' => e = .returned (.bool (decide (m = n))) ∧ w.grownBy w' none := by
  have hb1 := hb.alloc (.cells #[wV n 0, wV n 1, wV n 2, wV n 3] 44)
  rw [wds8] at hb1
  have hq := same_words m n hm hn
  have he := eql_narrow (Sc.wrd m 0) (Sc.wrd m 1) (Sc.wrd m 2) (Sc.wrd m 3) (Sc.wrd n 0) (Sc.wrd n 1) (Sc.wrd n 2) (Sc.wrd n 3)
  rw [hq] at he
  clear hq
  have he0 := eql_narrow 0 0 0 0 0 0 0 0
  have z4 := top_zero m 4 hm (by decide)
  have z5 := top_zero m 5 hm (by decide)
  have z6 := top_zero m 6 hm (by decide)
  have z7 := top_zero m 7 hm (by decide)
  have c0 := hb1.cell (i := 0) rfl
  have c1 := hb1.cell (i := 1) rfl
  have c2 := hb1.cell (i := 2) rfl
  have c3 := hb1.cell (i := 3) rfl
  have c4 := hb1.cell (i := 4) rfl
  have c5 := hb1.cell (i := 5) rfl
  have c6 := hb1.cell (i := 6) rfl
  have c7 := hb1.cell (i := 7) rfl
  unfold wV u64N at c0 c1 c2 c3 c4 c5 c6 c7
  rw [z4] at c4
  rw [z5] at c5
  rw [z6] at c6
  rw [z7] at c7
  clear z4 z5 z6 z7 hb hb1
  have hg := gb_alloc (gb_refl w none) (.cells #[wV n 0, wV n 1, wV n 2, wV n 3] 44)
  have HG := Lib.hid hg; clear hg
  have ha0 := arr_at R 0 8
  have ha4 := arr_at R 4 4
  unfold narrowV wV u64N
  by_cases h : m = n
  · rw [decide_eq_true h] at he ⊢
    subst h
    have HG' : Hid (w.grownBy (w.alloc (.cells #[.int .u64 (Sc.wrd m 0 : Int), .int .u64 (Sc.wrd m 1 : Int), .int .u64 (Sc.wrd m 2 : Int), .int .u64 (Sc.wrd m 3 : Int)] 44)) none) := HG
    clear HG
    go_enter Tryz.func29, Tryz.ntmps29
    go_wp2
    go_quiet (fail)
    go_wp2
    go_ret
    exact ⟨rfl, gb_drewN HG'.out _⟩
  · rw [decide_eq_false h] at he ⊢
    have HG' : Hid (w.grownBy (w.alloc (.cells #[.int .u64 (Sc.wrd n 0 : Int), .int .u64 (Sc.wrd n 1 : Int), .int .u64 (Sc.wrd n 2 : Int), .int .u64 (Sc.wrd n 3 : Int)] 44)) none) := HG
    clear HG
    go_enter Tryz.func29, Tryz.ntmps29
    go_wp2
    go_quiet (fail)
    go_wp2
    go_ret
    exact ⟨rfl, gb_drewN HG'.out _⟩
end Go.Proofs.YtmnlidfalhjghaaGreatDoor
