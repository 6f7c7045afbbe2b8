/- field: Same, Zero, Odd, Put. -/
import Derived.Test.YtjgfhihngbhljaaDoorFeBytesOf
import Derived.ChangeKeysEq
namespace Go.Proofs.YtjgfhihngbhljaaDoor
open Go.RowKit

/-! ### two arrays of integers, compared -/
theorem run_eqItems_ints {P : Program} (w : World) (d : Nat) {e : TypeId} {k : IntKind} (he : P.plainKey e = true) (hu : P.underlying e = some (.int k)) (f g : Nat → Int) (xs ys : Array Value) (is : List Nat)
    (hx : ∀ i ∈ is, xs[i * 1]? = some (.int k (f i))) (hy : ∀ i ∈ is, ys[i * 1]? = some (.int k (g i))) : (Op.eqItems (d + 1) e 1 xs ys is).run P w = .ok (is.all fun i => f i == g i) w := by
  induction is with
  | nil => simp [Op.eqItems]
  | cons i r ih =>
    have h1 := run_part_plain w he (hx i (List.mem_cons_self ..))
    have h2 := run_part_plain w he (hy i (List.mem_cons_self ..))
    simp only [Op.eqItems, Sem.run_bind, h1, h2, Result.andThen_ok, run_equalIn_int w d e k k (f i) (g i) hu, List.all_cons]
    cases hfg : f i == g i
    · simp
    · simpa using ih (fun j hj => hx j (List.mem_cons_of_mem _ hj)) (fun j hj => hy j (List.mem_cons_of_mem _ hj))
theorem digits_same (n : Nat) : ∀ x y : Int, 0 ≤ x → 0 ≤ y → x < 2 ^ (8 * n) → y < 2 ^ (8 * n) → (∀ i, i < n → x / 2 ^ (8 * i) % 256 = y / 2 ^ (8 * i) % 256) → x = y := by
  induction n with
  | zero => intro x y h0 k0 h1 k1 _; simp at h1 k1; omega
  | succ n ih =>
    intro x y h0 k0 h1 k1 h
    have e : (2 : Int) ^ (8 * (n + 1)) = 256 * 2 ^ (8 * n) := by rw [show 8 * (n + 1) = 8 * n + 8 by omega, Int.pow_add]; omega
    rw [e] at h1 k1
    have hd : x / 256 = y / 256 := ih _ _ (by omega) (by omega) (by omega) (by omega) fun i hi => by
      have := h (i + 1) (by omega)
      have e2 : (2 : Int) ^ (8 * (i + 1)) = 256 * 2 ^ (8 * i) := by rw [show 8 * (i + 1) = 8 * i + 8 by omega, Int.pow_add]; omega
      rw [e2, ← Int.ediv_ediv_of_nonneg (by decide), ← Int.ediv_ediv_of_nonneg (by decide)] at this
      exact this
    have hm := h 0 (by omega)
    simp at hm
    omega
theorem bytes_same (x y : Int) (h0 : 0 ≤ x) (k0 : 0 ≤ y) (h1 : x < 2 ^ 256) (k1 : y < 2 ^ 256) :
    ((List.range 32).all fun i => (x / 2 ^ (8 * i) % 256 == y / 2 ^ (8 * i) % 256)) = decide (x = y) := by
  rw [Bool.eq_iff_iff, List.all_eq_true, decide_eq_true_iff]
  constructor
  · intro h
    exact digits_same 32 x y h0 k0 h1 k1 fun i hi => by simpa using h i (List.mem_range.2 hi)
  · rintro rfl i _; simp
theorem bytesV_get (x : Int) (i : Nat) (h : i < 32) : (bytesV x)[i]? = some (bytV x i) := by
  unfold bytesV; rw [List.getElem?_map, List.getElem?_range h]; rfl
theorem info_u8 : ∃ i, Tryd.prog.info? 5 = some i := by
  cases h : Tryd.prog.info? 5 with
  | none => exact absurd h (by have : (Tryd.prog.info? 5).isSome = true := by kernel_rfl
                               intro e; rw [e] at this; cases this)
  | some i => exact ⟨i, rfl⟩
theorem eql_bytes (x y : Int) (h0 : 0 ≤ x) (k0 : 0 ≤ y) (h1 : x < 2 ^ 256) (k1 : y < 2 ^ 256) (w : World) :
    (binOp .eql 47 (.agg (bytesV x).toArray) (.agg (bytesV y).toArray)).run Tryd.prog w = .ok (.bool (decide (x = y))) w := by
  obtain ⟨j, hj⟩ := info_u8
  have hc : Tryd.prog.cellsOf 5 = 1 := by kernel_rfl
  rw [run_eql_struct, run_equalIn_array w 9999 _ _ Tryd.underlying47 hj, hc,
    run_eqItems_ints w 9998 (by kernel_rfl) Tryd.underlying5 (fun i => x / 2 ^ (8 * i) % 256) (fun i => y / 2 ^ (8 * i) % 256) _ _ _
      (fun i hi => by rw [Nat.mul_one, List.getElem?_toArray]; exact bytesV_get x i (List.mem_range.1 hi)) (fun i hi => by rw [Nat.mul_one, List.getElem?_toArray]; exact bytesV_get y i (List.mem_range.1 hi)),
    bytes_same x y h0 k0 h1 k1]
  rfl
theorem m_256 (a : Fe) : (Fe.m a : Int) < 2 ^ 256 := by
  have := (m_bd a).2
  have e : (2 : Int) ^ 256 = 115792089237316195423570985008687907853269984665640564039457584007913129639936 := by decide
  omega

abbrev TwoS (w : World) (a b : Fe) (w' : World) : Prop := Blk w' w.heap.size 24 [.int .u64 a.x0, .int .u64 a.x1, .int .u64 a.x2, .int .u64 a.x3, .int .u64 a.x4] ∧ Blk w' (w.heap.size + 1) 24 [.int .u64 b.x0, .int .u64 b.x1, .int .u64 b.x2, .int .u64 b.x3, .int .u64 b.x4] ∧ w.grownBy w' none ∧ w'.cell? ⟨w.heap.size, 0, none⟩ = some (.int .u64 a.x0) ∧ w'.cell? ⟨w.heap.size, 1, none⟩ = some (.int .u64 a.x1) ∧ w'.cell? ⟨w.heap.size, 2, none⟩ = some (.int .u64 a.x2) ∧ w'.cell? ⟨w.heap.size, 3, none⟩ = some (.int .u64 a.x3) ∧ w'.cell? ⟨w.heap.size, 4, none⟩ = some (.int .u64 a.x4) ∧ w'.cell? ⟨w.heap.size + 1, 0, none⟩ = some (.int .u64 b.x0) ∧ w'.cell? ⟨w.heap.size + 1, 1, none⟩ = some (.int .u64 b.x1) ∧ w'.cell? ⟨w.heap.size + 1, 2, none⟩ = some (.int .u64 b.x2) ∧ w'.cell? ⟨w.heap.size + 1, 3, none⟩ = some (.int .u64 b.x3) ∧ w'.cell? ⟨w.heap.size + 1, 4, none⟩ = some (.int .u64 b.x4)
theorem twoS_mk {w w' : World} {a b : Fe} (hA : Blk w' w.heap.size 24 [.int .u64 a.x0, .int .u64 a.x1, .int .u64 a.x2, .int .u64 a.x3, .int .u64 a.x4]) (hB : Blk w' (w.heap.size + 1) 24 [.int .u64 b.x0, .int .u64 b.x1, .int .u64 b.x2, .int .u64 b.x3, .int .u64 b.x4]) (hg : w.grownBy w' none) : TwoS w a b w' :=
  ⟨hA, hB, hg, hA.cell (i := 0) rfl, hA.cell (i := 1) rfl, hA.cell (i := 2) rfl, hA.cell (i := 3) rfl, hA.cell (i := 4) rfl, hB.cell (i := 0) rfl, hB.cell (i := 1) rfl, hB.cell (i := 2) rfl, hB.cell (i := 3) rfl, hB.cell (i := 4) rfl⟩
theorem twoS_keep {w w1 w2 : World} {a b : Fe} (hg : w1.grownBy w2 none) (h : TwoS w a b w1) : TwoS w a b w2 :=
  twoS_mk (h.1.grown hg (by simp)) (h.2.1.grown hg (by simp)) (gb_trans h.2.2.1 hg)
set_option maxRecDepth 100000 in
set_option maxHeartbeats 1600000 in
theorem same_any (a b : Fe) (w : World) (ha : a.Ok) (hb : b.Ok) :
    Calls Tryd.prog 10 #[.agg #[.int .u64 a.x0, .int .u64 a.x1, .int .u64 a.x2, .int .u64 a.x3, .int .u64 a.x4], .agg #[.int .u64 b.x0, .int .u64 b.x1, .int .u64 b.x2, .int .u64 b.x3, .int .u64 b.x4]] w fun e w' => e = .returned (.bool (decide (Fe.m a = Fe.m b))) ∧ w.grownBy w' none := by
  have hE := eql_bytes (Fe.m a) (Fe.m b) (m_bd a).1 (m_bd b).1 (m_256 a) (m_256 b)
  have hq : decide ((Fe.m a : Int) = (Fe.m b : Int)) = decide (Fe.m a = Fe.m b) := by
    rw [Bool.eq_iff_iff, decide_eq_true_iff, decide_eq_true_iff]; omega
  rw [hq] at hE
  clear hq
  go_enter Tryd.func10, Tryd.ntmps10
  go_wp2
  have hS0 : TwoS w a b ((w.alloc (.cells #[.int .u64 a.x0, .int .u64 a.x1, .int .u64 a.x2, .int .u64 a.x3, .int .u64 a.x4] 24)).alloc (.cells #[.int .u64 b.x0, .int .u64 b.x1, .int .u64 b.x2, .int .u64 b.x3, .int .u64 b.x4] 24)).drew :=
    twoS_mk ((Blk.new w [.int .u64 a.x0, .int .u64 a.x1, .int .u64 a.x2, .int .u64 a.x3, .int .u64 a.x4] _).alloc _).drew (Blk.newAt (w.alloc _) [.int .u64 b.x0, .int .u64 b.x1, .int .u64 b.x2, .int .u64 b.x3, .int .u64 b.x4] _ (by simp)).drew (gb_drew (gb_alloc (gb_alloc (gb_refl _ _) _) _))
  revert hS0
  generalize (w.alloc (.cells #[.int .u64 a.x0, .int .u64 a.x1, .int .u64 a.x2, .int .u64 a.x3, .int .u64 a.x4] 24)).alloc (.cells #[.int .u64 b.x0, .int .u64 b.x1, .int .u64 b.x2, .int .u64 b.x3, .int .u64 b.x4] 24) = W0
  intro hS0
  go_region_held3 (fun w' => Blk w' w.heap.size 24 [.int .u64 a.x0, .int .u64 a.x1, .int .u64 a.x2, .int .u64 a.x3, .int .u64 a.x4] ∧ Blk w' (w.heap.size + 1) 24 [.int .u64 b.x0, .int .u64 b.x1, .int .u64 b.x2, .int .u64 b.x3, .int .u64 b.x4] ∧ w.grownBy w' none ∧ w'.cell? ⟨w.heap.size, 0, none⟩ = some (.int .u64 a.x0) ∧ w'.cell? ⟨w.heap.size, 1, none⟩ = some (.int .u64 a.x1) ∧ w'.cell? ⟨w.heap.size, 2, none⟩ = some (.int .u64 a.x2) ∧ w'.cell? ⟨w.heap.size, 3, none⟩ = some (.int .u64 a.x3) ∧ w'.cell? ⟨w.heap.size, 4, none⟩ = some (.int .u64 a.x4) ∧ w'.cell? ⟨w.heap.size + 1, 0, none⟩ = some (.int .u64 b.x0) ∧ w'.cell? ⟨w.heap.size + 1, 1, none⟩ = some (.int .u64 b.x1) ∧ w'.cell? ⟨w.heap.size + 1, 2, none⟩ = some (.int .u64 b.x2) ∧ w'.cell? ⟨w.heap.size + 1, 3, none⟩ = some (.int .u64 b.x3) ∧ w'.cell? ⟨w.heap.size + 1, 4, none⟩ = some (.int .u64 b.x4))
    (first | (with_reducible exact hS0) | (with_reducible exact twoS_keep (by assumption) (by assumption)))
    (first | (go_simp; go_at_call 28; refine (bytesOf_any _ _ ?_).mono ?_; assumption; rintro e w1 ⟨rfl, hg1⟩))
  go_wp2
  clear hE
  go_ret
  refine ⟨rfl, ?_⟩
  with_reducible exact (show TwoS w a b _ from (by assumption)).2.2.1

theorem m_zero : Fe.m ⟨0, 0, 0, 0, 0⟩ = 0 := by decide +kernel
theorem ok_zero : Fe.Ok ⟨0, 0, 0, 0, 0⟩ := by constructor <;> decide
set_option maxHeartbeats 400000 in
theorem zero_any (a : Fe) (w : World) (ha : a.Ok) :
    Calls Tryd.prog 21 #[.agg #[.int .u64 a.x0, .int .u64 a.x1, .int .u64 a.x2, .int .u64 a.x3, .int .u64 a.x4]] w fun e w' => e = .returned (.bool (decide (Fe.m a = 0))) ∧ w.grownBy w' none := by
  have hg0 : ∀ c0, w.grownBy (w.alloc c0) none := fun c0 => gb_alloc (gb_refl _ _) _
  go_enter Tryd.func21, Tryd.ntmps21
  go_wp2_with (go_at_call 10; refine (same_any a ⟨0, 0, 0, 0, 0⟩ _ ha ok_zero).mono ?_; rintro e w1 ⟨rfl, hg1⟩)
  go_ret
  exact ⟨by rw [m_zero]; rfl, gb_trans (hg0 _) hg1⟩
theorem odd_bits (x : Int) (_ : 0 ≤ x) : (bits .and .u8 (x % 256) 1 == 1) = decide (x % 2 = 1) := by
  have all : ∀ j : Fin 256, (bits .and .u8 (j.val : Int) 1 == 1) = decide ((j.val : Int) % 2 = 1) := by decide +kernel
  obtain ⟨n, hn⟩ := Int.eq_ofNat_of_zero_le (show 0 ≤ x % 256 by omega)
  have h1 : (bits .and .u8 (n : Int) 1 == 1) = decide ((n : Int) % 2 = 1) := all ⟨n, by omega⟩
  have e : (n : Int) % 2 = x % 2 := by omega
  rw [hn, h1, e]
set_option maxHeartbeats 400000 in
theorem odd_any (a : Fe) (w : World) (ha : a.Ok) :
    Calls Tryd.prog 22 #[.agg #[.int .u64 a.x0, .int .u64 a.x1, .int .u64 a.x2, .int .u64 a.x3, .int .u64 a.x4]] w fun e w' => e = .returned (.bool (decide (Fe.m a % 2 = 1))) ∧ w.grownBy w' none := by
  have hg0 : ∀ c0, w.grownBy (w.alloc c0) none := fun c0 => gb_alloc (gb_refl _ _) _
  have hi : ∀ w, (Instr.index 47 (.agg (bytesV (Fe.m a)).toArray) (.int .i64 0)).run Tryd.prog w = .ok (.int .u8 ((Fe.m a : Int) / 1 % 256)) w := fun _ => by kernel_rfl
  simp only [Int.ediv_one] at hi
  have ho := odd_bits (Fe.m a) (m_bd a).1
  go_enter Tryd.func22, Tryd.ntmps22
  go_wp2_with (go_at_call 28; refine (bytesOf_any a _ ha).mono ?_; rintro e w1 ⟨rfl, hg1⟩)
  clear ho hi
  go_ret
  refine ⟨?_, gb_trans (hg0 _) hg1⟩
  have e : decide ((Fe.m a : Int) % 2 = 1) = decide (Fe.m a % 2 = 1) := by
    rw [Bool.eq_iff_iff, decide_eq_true_iff, decide_eq_true_iff]; omega
  rw [← e]; rfl
set_option maxHeartbeats 400000 in
theorem put_any (a : Fe) (w : World) (ha : a.Ok) :
    Calls Tryd.prog 6 #[.agg #[.int .u64 a.x0, .int .u64 a.x1, .int .u64 a.x2, .int .u64 a.x3, .int .u64 a.x4]] w fun e w' => ∃ NB, e = .returned (.slice (some ⟨NB, 0, none⟩) 32 32) ∧ w.grownBy w' none ∧ w.heap.size ≤ NB ∧ Blk w' NB 47 (bytesV (Fe.m a)) := by
  have hg0 : ∀ c0, w.grownBy (w.alloc c0) none := fun c0 => gb_alloc (gb_refl _ _) _
  obtain ⟨X, hX⟩ : ∃ X, X = bytesV (Fe.m a) := ⟨_, rfl⟩
  have hXl : X.length = 32 := by rw [hX]; rfl
  have hX1 : X.toArray.all (·.oneCell') = true := by rw [hX]; exact bytesV_one _
  have HX := Lib.hid (And.intro hX (And.intro hXl hX1)); clear hX hXl hX1
  go_enter Tryd.func6, Tryd.ntmps6
  go_wp2_with fail
  refine (bytesOf_any a _ ha).mono ?_
  rintro e w1 ⟨rfl, hg1⟩
  rw [← HX.out.1]
  go_wp2_with (refine wpList_store_row rfl 47 (.tmp 3) (.tmp 5) rfl w1.heap.size X.toArray rfl rfl 47 zeros32.toArray (Blk.new w1 zeros32 47) (by rw [List.size_toArray, HX.out.2.1]; exact info_b32) (by rw [List.size_toArray, List.size_toArray, HX.out.2.1]; rfl) HX.out.2.2 ?_)
  have hb := (Blk.new w1 zeros32 47).row X
  rw [HX.out.1] at hb
  go_ret
  exact ⟨w1.heap.size, rfl, gb_setRow (gb_alloc (gb_trans (hg0 _) hg1) _) (Nat.le_trans (hg0 (.cells #[] 0)).size (Nat.le_trans (by simp) hg1.size)) _, by have := hg1.size; simp at this; omega, by rw [HX.out.1]; exact hb⟩
end Go.Proofs.YtjgfhihngbhljaaDoor
