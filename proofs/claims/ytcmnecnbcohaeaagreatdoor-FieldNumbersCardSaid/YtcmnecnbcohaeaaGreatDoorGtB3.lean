/- texts merged, part 3: XFeSame XFePow XFeOnes XFeFlow XFeFits XFeInv XFeGuess XFeRootW XFeFlow3 XNrIs XFeMath XFeGet XFeEq XFeKit XFeVals XFeAwake XNrLem -/
import Derived.Test.YtcmnecnbcohaeaaGreatDoorGtB2
import Derived.ChangeKeysEq
import Derived.Test.YtcmnecnbcohaeaaGreatDoorGtB1
import Derived.Shelf.Bytes.SlEqualAll
/- field: Same, Zero, Odd, Put. -/
namespace Go.Proofs.YtcmnecnbcohaeaaGreatDoor
open Go.RowKit

/-! ### two arrays of integers, compared -/
theorem run_eqItems_ints {P : Program} (w : World) (d : Nat) {e : TypeId} {k : IntKind} (he : P.plainKey e = true) (hu : P.underlying e = some (.int k)) (f g : Nat → Int) (xs ys : Array Value) (is : List Nat)
    (hx : ∀ i ∈ is, xs[i * 1]? = some (.int k (f i))) (hy : ∀ i ∈ is, ys[i * 1]? = some (.int k (g i))) : (Op.eqItems (d + 1) e 1 xs ys is).run P w = .ok (is.all fun i => f i == g i) w := by
  induction is with
  | nil => simp [Op.eqItems]
  | cons i r ih =>
    have h1 := run_part_plain w he (hx i (List.mem_cons_self ..))
    have h2 := run_part_plain w he (hy i (List.mem_cons_self ..))
    simp only [Op.eqItems, Sem.run_bind, h1, h2, Result.andThen_ok, run_equalIn_int w d e k k (f i) (g i) hu, List.all_cons]
    cases hfg : f i == g i
    · simp
    · simpa using ih (fun j hj => hx j (List.mem_cons_of_mem _ hj)) (fun j hj => hy j (List.mem_cons_of_mem _ hj))
theorem digits_same (n : Nat) : ∀ x y : Int, 0 ≤ x → 0 ≤ y → x < 2 ^ (8 * n) → y < 2 ^ (8 * n) → (∀ i, i < n → x / 2 ^ (8 * i) % 256 = y / 2 ^ (8 * i) % 256) → x = y := by
  induction n with
  | zero => intro x y h0 k0 h1 k1 _; simp at h1 k1; omega
  | succ n ih =>
    intro x y h0 k0 h1 k1 h
    have e : (2 : Int) ^ (8 * (n + 1)) = 256 * 2 ^ (8 * n) := by rw [show 8 * (n + 1) = 8 * n + 8 by omega, Int.pow_add]; omega
    rw [e] at h1 k1
    have hd : x / 256 = y / 256 := ih _ _ (by omega) (by omega) (by omega) (by omega) fun i hi => by
      have := h (i + 1) (by omega)
      have e2 : (2 : Int) ^ (8 * (i + 1)) = 256 * 2 ^ (8 * i) := by rw [show 8 * (i + 1) = 8 * i + 8 by omega, Int.pow_add]; omega
      rw [e2, ← Int.ediv_ediv_of_nonneg (by decide), ← Int.ediv_ediv_of_nonneg (by decide)] at this
      exact this
    have hm := h 0 (by omega)
    simp at hm
    omega
theorem bytes_same (x y : Int) (h0 : 0 ≤ x) (k0 : 0 ≤ y) (h1 : x < 2 ^ 256) (k1 : y < 2 ^ 256) :
    ((List.range 32).all fun i => (x / 2 ^ (8 * i) % 256 == y / 2 ^ (8 * i) % 256)) = decide (x = y) := by
  rw [Bool.eq_iff_iff, List.all_eq_true, decide_eq_true_iff]
  constructor
  · intro h
    exact digits_same 32 x y h0 k0 h1 k1 fun i hi => by simpa using h i (List.mem_range.2 hi)
  · rintro rfl i _; simp
theorem bytesV_get (x : Int) (i : Nat) (h : i < 32) : (bytesV x)[i]? = some (bytV x i) := by
  unfold bytesV; rw [List.getElem?_map, List.getElem?_range h]; rfl
theorem info_u8 : ∃ i, Tryz.prog.info? 5 = some i := by
  cases h : Tryz.prog.info? 5 with
  | none => exact absurd h (by have : (Tryz.prog.info? 5).isSome = true := by kernel_rfl
                               intro e; rw [e] at this; cases this)
  | some i => exact ⟨i, rfl⟩
theorem eql_bytes (x y : Int) (h0 : 0 ≤ x) (k0 : 0 ≤ y) (h1 : x < 2 ^ 256) (k1 : y < 2 ^ 256) (w : World) :
    (binOp .eql 57 (.agg (bytesV x).toArray) (.agg (bytesV y).toArray)).run Tryz.prog w = .ok (.bool (decide (x = y))) w := by
  obtain ⟨j, hj⟩ := info_u8
  have hc : Tryz.prog.cellsOf 5 = 1 := by kernel_rfl
  rw [run_eql_struct, run_equalIn_array w 9999 _ _ Tryz.underlying57 hj, hc,
    run_eqItems_ints w 9998 (by kernel_rfl) Tryz.underlying5 (fun i => x / 2 ^ (8 * i) % 256) (fun i => y / 2 ^ (8 * i) % 256) _ _ _
      (fun i hi => by rw [Nat.mul_one, List.getElem?_toArray]; exact bytesV_get x i (List.mem_range.1 hi)) (fun i hi => by rw [Nat.mul_one, List.getElem?_toArray]; exact bytesV_get y i (List.mem_range.1 hi)),
    bytes_same x y h0 k0 h1 k1]
  rfl
theorem m_256 (a : Fe) : (Fe.m a : Int) < 2 ^ 256 := by
  have := (m_bd a).2
  have e : (2 : Int) ^ 256 = 115792089237316195423570985008687907853269984665640564039457584007913129639936 := by decide
  omega

abbrev TwoS (w : World) (a b : Fe) (w' : World) : Prop := Blk w' w.heap.size 27 [.int .u64 a.x0, .int .u64 a.x1, .int .u64 a.x2, .int .u64 a.x3, .int .u64 a.x4] ∧ Blk w' (w.heap.size + 1) 27 [.int .u64 b.x0, .int .u64 b.x1, .int .u64 b.x2, .int .u64 b.x3, .int .u64 b.x4] ∧ w.grownBy w' none ∧ w'.cell? ⟨w.heap.size, 0, none⟩ = some (.int .u64 a.x0) ∧ w'.cell? ⟨w.heap.size, 1, none⟩ = some (.int .u64 a.x1) ∧ w'.cell? ⟨w.heap.size, 2, none⟩ = some (.int .u64 a.x2) ∧ w'.cell? ⟨w.heap.size, 3, none⟩ = some (.int .u64 a.x3) ∧ w'.cell? ⟨w.heap.size, 4, none⟩ = some (.int .u64 a.x4) ∧ w'.cell? ⟨w.heap.size + 1, 0, none⟩ = some (.int .u64 b.x0) ∧ w'.cell? ⟨w.heap.size + 1, 1, none⟩ = some (.int .u64 b.x1) ∧ w'.cell? ⟨w.heap.size + 1, 2, none⟩ = some (.int .u64 b.x2) ∧ w'.cell? ⟨w.heap.size + 1, 3, none⟩ = some (.int .u64 b.x3) ∧ w'.cell? ⟨w.heap.size + 1, 4, none⟩ = some (.int .u64 b.x4)
theorem twoS_mk {w w' : World} {a b : Fe} (hA : Blk w' w.heap.size 27 [.int .u64 a.x0, .int .u64 a.x1, .int .u64 a.x2, .int .u64 a.x3, .int .u64 a.x4]) (hB : Blk w' (w.heap.size + 1) 27 [.int .u64 b.x0, .int .u64 b.x1, .int .u64 b.x2, .int .u64 b.x3, .int .u64 b.x4]) (hg : w.grownBy w' none) : TwoS w a b w' :=
  ⟨hA, hB, hg, hA.cell (i := 0) rfl, hA.cell (i := 1) rfl, hA.cell (i := 2) rfl, hA.cell (i := 3) rfl, hA.cell (i := 4) rfl, hB.cell (i := 0) rfl, hB.cell (i := 1) rfl, hB.cell (i := 2) rfl, hB.cell (i := 3) rfl, hB.cell (i := 4) rfl⟩
theorem twoS_keep {w w1 w2 : World} {a b : Fe} (hg : w1.grownBy w2 none) (h : TwoS w a b w1) : TwoS w a b w2 :=
  twoS_mk (h.1.grown hg (by simp)) (h.2.1.grown hg (by simp)) (gb_trans h.2.2.1 hg)
set_option maxRecDepth 100000 in
set_option maxHeartbeats 1600000 in
theorem same_any (a b : Fe) (w : World) (ha : a.Ok) (hb : b.Ok) :
    Calls Tryz.prog 21 #[.agg #[.int .u64 a.x0, .int .u64 a.x1, .int .u64 a.x2, .int .u64 a.x3, .int .u64 a.x4], .agg #[.int .u64 b.x0, .int .u64 b.x1, .int .u64 b.x2, .int .u64 b.x3, .int .u64 b.x4]] w fun e w' => e = .returned (.bool (decide (Fe.m a = Fe.m b))) ∧ w.grownBy w' none := by
  have hE := eql_bytes (Fe.m a) (Fe.m b) (m_bd a).1 (m_bd b).1 (m_256 a) (m_256 b)
  have hq : decide ((Fe.m a : Int) = (Fe.m b : Int)) = decide (Fe.m a = Fe.m b) := by
    rw [Bool.eq_iff_iff, decide_eq_true_iff, decide_eq_true_iff]; omega
  rw [hq] at hE
  clear hq
  go_enter Tryz.func21, Tryz.ntmps21
  go_wp2
  have hS0 : TwoS w a b ((w.alloc (.cells #[.int .u64 a.x0, .int .u64 a.x1, .int .u64 a.x2, .int .u64 a.x3, .int .u64 a.x4] 27)).alloc (.cells #[.int .u64 b.x0, .int .u64 b.x1, .int .u64 b.x2, .int .u64 b.x3, .int .u64 b.x4] 27)).drew :=
    twoS_mk ((Blk.new w [.int .u64 a.x0, .int .u64 a.x1, .int .u64 a.x2, .int .u64 a.x3, .int .u64 a.x4] _).alloc _).drew (Blk.newAt (w.alloc _) [.int .u64 b.x0, .int .u64 b.x1, .int .u64 b.x2, .int .u64 b.x3, .int .u64 b.x4] _ (by simp)).drew (gb_drew (gb_alloc (gb_alloc (gb_refl _ _) _) _))
  revert hS0
  generalize (w.alloc (.cells #[.int .u64 a.x0, .int .u64 a.x1, .int .u64 a.x2, .int .u64 a.x3, .int .u64 a.x4] 27)).alloc (.cells #[.int .u64 b.x0, .int .u64 b.x1, .int .u64 b.x2, .int .u64 b.x3, .int .u64 b.x4] 27) = W0
  intro hS0
  go_region_held3 (fun w' => Blk w' w.heap.size 27 [.int .u64 a.x0, .int .u64 a.x1, .int .u64 a.x2, .int .u64 a.x3, .int .u64 a.x4] ∧ Blk w' (w.heap.size + 1) 27 [.int .u64 b.x0, .int .u64 b.x1, .int .u64 b.x2, .int .u64 b.x3, .int .u64 b.x4] ∧ w.grownBy w' none ∧ w'.cell? ⟨w.heap.size, 0, none⟩ = some (.int .u64 a.x0) ∧ w'.cell? ⟨w.heap.size, 1, none⟩ = some (.int .u64 a.x1) ∧ w'.cell? ⟨w.heap.size, 2, none⟩ = some (.int .u64 a.x2) ∧ w'.cell? ⟨w.heap.size, 3, none⟩ = some (.int .u64 a.x3) ∧ w'.cell? ⟨w.heap.size, 4, none⟩ = some (.int .u64 a.x4) ∧ w'.cell? ⟨w.heap.size + 1, 0, none⟩ = some (.int .u64 b.x0) ∧ w'.cell? ⟨w.heap.size + 1, 1, none⟩ = some (.int .u64 b.x1) ∧ w'.cell? ⟨w.heap.size + 1, 2, none⟩ = some (.int .u64 b.x2) ∧ w'.cell? ⟨w.heap.size + 1, 3, none⟩ = some (.int .u64 b.x3) ∧ w'.cell? ⟨w.heap.size + 1, 4, none⟩ = some (.int .u64 b.x4))
    (first | (with_reducible exact hS0) | (with_reducible exact twoS_keep (by assumption) (by assumption)))
    (first | (go_simp; go_at_call 32; refine (bytesOf_any _ _ ?_).mono ?_; assumption; rintro e w1 ⟨rfl, hg1⟩))
  go_wp2
  clear hE
  go_ret
  refine ⟨rfl, ?_⟩
  with_reducible exact (show TwoS w a b _ from (by assumption)).2.2.1

theorem m_zero : Fe.m ⟨0, 0, 0, 0, 0⟩ = 0 := by decide +kernel
theorem ok_zero : Fe.Ok ⟨0, 0, 0, 0, 0⟩ := by constructor <;> decide
set_option maxHeartbeats 400000 in
theorem zero_any (a : Fe) (w : World) (ha : a.Ok) :
    Calls Tryz.prog 22 #[.agg #[.int .u64 a.x0, .int .u64 a.x1, .int .u64 a.x2, .int .u64 a.x3, .int .u64 a.x4]] w fun e w' => e = .returned (.bool (decide (Fe.m a = 0))) ∧ w.grownBy w' none := by
  have hg0 : ∀ c0, w.grownBy (w.alloc c0) none := fun c0 => gb_alloc (gb_refl _ _) _
  go_enter Tryz.func22, Tryz.ntmps22
  go_wp2_with (go_at_call 21; refine (same_any a ⟨0, 0, 0, 0, 0⟩ _ ha ok_zero).mono ?_; rintro e w1 ⟨rfl, hg1⟩)
  go_ret
  exact ⟨by rw [m_zero]; rfl, gb_trans (hg0 _) hg1⟩
theorem odd_bits (x : Int) (_ : 0 ≤ x) : (bits .and .u8 (x % 256) 1 == 1) = decide (x % 2 = 1) := by
  have all : ∀ j : Fin 256, (bits .and .u8 (j.val : Int) 1 == 1) = decide ((j.val : Int) % 2 = 1) := by decide +kernel
  obtain ⟨n, hn⟩ := Int.eq_ofNat_of_zero_le (show 0 ≤ x % 256 by omega)
  have h1 : (bits .and .u8 (n : Int) 1 == 1) = decide ((n : Int) % 2 = 1) := all ⟨n, by omega⟩
  have e : (n : Int) % 2 = x % 2 := by omega
  rw [hn, h1, e]
set_option maxHeartbeats 400000 in
theorem odd_any (a : Fe) (w : World) (ha : a.Ok) :
    Calls Tryz.prog 43 #[.agg #[.int .u64 a.x0, .int .u64 a.x1, .int .u64 a.x2, .int .u64 a.x3, .int .u64 a.x4]] w fun e w' => e = .returned (.bool (decide (Fe.m a % 2 = 1))) ∧ w.grownBy w' none := by
  have hg0 : ∀ c0, w.grownBy (w.alloc c0) none := fun c0 => gb_alloc (gb_refl _ _) _
  have hi : ∀ w, (Instr.index 57 (.agg (bytesV (Fe.m a)).toArray) (.int .i64 0)).run Tryz.prog w = .ok (.int .u8 ((Fe.m a : Int) / 1 % 256)) w := fun _ => by kernel_rfl
  simp only [Int.ediv_one] at hi
  have ho := odd_bits (Fe.m a) (m_bd a).1
  go_enter Tryz.func43, Tryz.ntmps43
  go_wp2_with (go_at_call 32; refine (bytesOf_any a _ ha).mono ?_; rintro e w1 ⟨rfl, hg1⟩)
  clear ho hi
  go_ret
  refine ⟨?_, gb_trans (hg0 _) hg1⟩
  have e : decide ((Fe.m a : Int) % 2 = 1) = decide (Fe.m a % 2 = 1) := by
    rw [Bool.eq_iff_iff, decide_eq_true_iff, decide_eq_true_iff]; omega
  rw [← e]; rfl
set_option maxHeartbeats 400000 in
theorem put_any (a : Fe) (w : World) (ha : a.Ok) :
    Calls Tryz.prog 12 #[.agg #[.int .u64 a.x0, .int .u64 a.x1, .int .u64 a.x2, .int .u64 a.x3, .int .u64 a.x4]] w fun e w' => ∃ NB, e = .returned (.slice (some ⟨NB, 0, none⟩) 32 32) ∧ w.grownBy w' none ∧ w.heap.size ≤ NB ∧ Blk w' NB 57 (bytesV (Fe.m a)) := by
  have hg0 : ∀ c0, w.grownBy (w.alloc c0) none := fun c0 => gb_alloc (gb_refl _ _) _
  obtain ⟨X, hX⟩ : ∃ X, X = bytesV (Fe.m a) := ⟨_, rfl⟩
  have hXl : X.length = 32 := by rw [hX]; rfl
  have hX1 : X.toArray.all (·.oneCell') = true := by rw [hX]; exact bytesV_one _
  have HX := Lib.hid (And.intro hX (And.intro hXl hX1)); clear hX hXl hX1
  go_enter Tryz.func12, Tryz.ntmps12
  go_wp2_with fail
  refine (bytesOf_any a _ ha).mono ?_
  rintro e w1 ⟨rfl, hg1⟩
  rw [← HX.out.1]
  go_wp2_with (refine wpList_store_row rfl 57 (.tmp 3) (.tmp 5) rfl w1.heap.size X.toArray rfl rfl 57 zeros32.toArray (Blk.new w1 zeros32 57) (by rw [List.size_toArray, HX.out.2.1]; exact info_b32) (by rw [List.size_toArray, List.size_toArray, HX.out.2.1]; rfl) HX.out.2.2 ?_)
  have hb := (Blk.new w1 zeros32 57).row X
  rw [HX.out.1] at hb
  go_ret
  exact ⟨w1.heap.size, rfl, gb_setRow (gb_alloc (gb_trans (hg0 _) hg1) _) (Nat.le_trans (hg0 (.cells #[] 0)).size (Nat.le_trans (by simp) hg1.size)) _, by have := hg1.size; simp at this; omega, by rw [HX.out.1]; exact hb⟩
end Go.Proofs.YtcmnecnbcohaeaaGreatDoor

/- field: powers: the step that goes on from a power. -/
namespace Go.Proofs.YtcmnecnbcohaeaaGreatDoor
open Go.RowKit

theorem mul_fe (a b : Fe) (w : World) (ha : a.Ok) (hb : b.Ok) : Calls Tryz.prog 35 #[.agg #[.int .u64 a.x0, .int .u64 a.x1, .int .u64 a.x2, .int .u64 a.x3, .int .u64 a.x4], .agg #[.int .u64 b.x0, .int .u64 b.x1, .int .u64 b.x2, .int .u64 b.x3, .int .u64 b.x4]] w (FeOut (Fe.mulF a b) w) :=
  mul_any a.x0 a.x1 a.x2 a.x3 a.x4 b.x0 b.x1 b.x2 b.x3 b.x4 w ha.n0 ha.l0 ha.n1 ha.l1 ha.n2 ha.l2 ha.n3 ha.l3 ha.n4 ha.l4 hb.n0 hb.l0 hb.n1 hb.l1 hb.n2 hb.l2 hb.n3 hb.l3 hb.n4 hb.l4
theorem sq_fe (a : Fe) (w : World) (ha : a.Ok) : Calls Tryz.prog 38 #[.agg #[.int .u64 a.x0, .int .u64 a.x1, .int .u64 a.x2, .int .u64 a.x3, .int .u64 a.x4]] w (FeOut (Fe.sqF a) w) :=
  sq_any a.x0 a.x1 a.x2 a.x3 a.x4 w ha.n0 ha.l0 ha.n1 ha.l1 ha.n2 ha.l2 ha.n3 ha.l3 ha.n4 ha.l4
/-- squared n times -/
def sqN : Nat → Fe → Fe
  | 0, p => p
  | n + 1, p => Fe.sqF (sqN n p)
theorem sqN_ok {p : Fe} (h : p.Ok) (n : Nat) : (sqN n p).Ok := by
  cases n with
  | zero => exact h
  | succ n => exact (Fe.sq_right _).ok
def stepF (n : Nat) (p b : Fe) : Fe := Fe.mulF (sqN n p) b
def feL (a : Fe) : List Value := [.int .u64 a.x0, .int .u64 a.x1, .int .u64 a.x2, .int .u64 a.x3, .int .u64 a.x4]

set_option maxHeartbeats 400000 in
theorem powers_any (a : Fe) (w : World) :
    Calls Tryz.prog 84 #[.agg #[.int .u64 a.x0, .int .u64 a.x1, .int .u64 a.x2, .int .u64 a.x3, .int .u64 a.x4]] w fun e w' => e = .returned (.func (.func 122) #[] #[.pointer (some ⟨w.heap.size + 1, 0, none⟩)]) ∧ w.grownBy w' none ∧ Blk w' (w.heap.size + 1) 27 (feL a) := by
  have hmf : ∀ (fn : Fn) (first cap : Array Value) (w : World), (Instr.makeFunc fn first cap).run Tryz.prog w = .ok (.func fn first cap) w := fun _ _ _ _ => rfl
  go_enter Tryz.func84, Tryz.ntmps84
  go_wp2
  go_ret
  exact ⟨rfl, gb_alloc (gb_alloc (gb_refl _ _) _) _, Blk.newAt (w.alloc _) (feL a) _ (by simp)⟩
set_option maxHeartbeats 1600000 in
theorem step_any (C n : Nat) (p b : Fe) (w : World) (hn : n ≤ 1000) (hp : p.Ok) (hb : b.Ok) (hC : Blk w C 27 (feL p)) :
    Calls Tryz.prog 122 #[.int .i64 n, .agg #[.int .u64 b.x0, .int .u64 b.x1, .int .u64 b.x2, .int .u64 b.x3, .int .u64 b.x4], .pointer (some ⟨C, 0, none⟩)] w fun e w' => ∃ r : Fe, Hid (r = stepF n p b) ∧ e = .returned (.agg #[.int .u64 r.x0, .int .u64 r.x1, .int .u64 r.x2, .int .u64 r.x3, .int .u64 r.x4]) ∧ w.grownBy w' (some C) ∧ Blk w' C 27 (feL r) := by
  have hlt := hC.lt
  go_enter Tryz.func122, Tryz.ntmps122
  go_wp2
  go_loopw [7] (fun i wr => ∃ k : Nat, k ≤ n ∧ i = .int .i64 k ∧ w.grownBy wr (some C) ∧ Blk wr C 27 (feL (sqN k p)) ∧ Blk wr w.heap.size 27 (feL b) ∧ Room5 wr (w.heap.size + 1) 27) (fun i _ => n - (intOf i).toNat)
  case atStart => exact ⟨0, by omega, rfl, gb_alloc (gb_alloc (gb_refl _ _) _) _, (hC.alloc _).alloc _, (Blk.new w (feL b) _).alloc _, ⟨_, _, _, _, _, Blk.newAt _ [.int .u64 0, .int .u64 0, .int .u64 0, .int .u64 0, .int .u64 0] _ (by simp)⟩⟩
  case round =>
    obtain ⟨k, hk, rfl, hg, hP, hB, hR⟩ := hrel
    have hok := sqN_ok hp k
    by_cases hlt2 : k < n
    · have hs : Hid (sqN (k + 1) p = Fe.sqF (sqN k p)) := Lib.hid rfl
      obtain ⟨q, hq⟩ : ∃ q, q = sqN k p := ⟨_, rfl⟩
      rw [← hq] at hP hok
      have HQ := Lib.hid hq; clear hq
      have z0 := hP.cell (i := 0) rfl; have z1 := hP.cell (i := 1) rfl; have z2 := hP.cell (i := 2) rfl; have z3 := hP.cell (i := 3) rfl; have z4 := hP.cell (i := 4) rfl
      go_wp2_with (go_at_call 38; refine (sq_fe q _ hok).mono ?_; rintro e w1 ⟨r, hr, rfl, hg1⟩; have hP1 := hP.grown hg1 (by simp); have y0 := hP1.cell (i := 0) rfl; have y1 := hP1.cell (i := 1) rfl; have y2 := hP1.cell (i := 2) rfl; have y3 := hP1.cell (i := 3) rfl; have y4 := hP1.cell (i := 4) rfl; have f0 := hP1.free 0; have f1 := hP1.free 1; have f2 := hP1.free 2; have f3 := hP1.free 3; have f4 := hP1.free 4)
      go_roundw
      case rel =>
        refine ⟨k + 1, by omega, by go_num, gb_set (gb_set (gb_set (gb_set (gb_set (gb_trans hg (gb_row hg1 _)) _ _) _ _) _ _) _ _) _ _, ?_, ?_, ?_⟩
        · have := Room5.set5 ⟨_, _, _, _, _, hP1⟩ (.int .u64 r.x0) (.int .u64 r.x1) (.int .u64 r.x2) (.int .u64 r.x3) (.int .u64 r.x4)
          rw [hs.out, ← HQ.out, ← hr.out]
          exact this
        · exact (((((hB.grown hg1 (by simp)).other (by simp; omega) _).other (by simp; omega) _).other (by simp; omega) _).other (by simp; omega) _).other (by simp; omega) _
        · exact room5_set (room5_set (room5_set (room5_set (room5_set (hR.grown hg1 (by simp)) (by simp; omega) _) (by simp; omega) _) (by simp; omega) _) (by simp; omega) _) (by simp; omega) _
      case measure => simp [intOf]; omega
    · obtain rfl : k = n := by omega
      obtain ⟨q, hq⟩ : ∃ q, q = sqN k p := ⟨_, rfl⟩
      rw [← hq] at hP hok
      have HQ := Lib.hid hq; clear hq
      have z0 := hP.cell (i := 0) rfl; have z1 := hP.cell (i := 1) rfl; have z2 := hP.cell (i := 2) rfl; have z3 := hP.cell (i := 3) rfl; have z4 := hP.cell (i := 4) rfl
      have v0 := hB.cell (i := 0) rfl; have v1 := hB.cell (i := 1) rfl; have v2 := hB.cell (i := 2) rfl; have v3 := hB.cell (i := 3) rfl; have v4 := hB.cell (i := 4) rfl
      go_wp2_with (go_at_call 35; refine (mul_fe q b _ hok hb).mono ?_; rintro e w1 ⟨r, hr, rfl, hg1⟩; have hP1 := hP.grown hg1 (by simp); have y0 := hP1.cell (i := 0) rfl; have y1 := hP1.cell (i := 1) rfl; have y2 := hP1.cell (i := 2) rfl; have y3 := hP1.cell (i := 3) rfl; have y4 := hP1.cell (i := 4) rfl; have f0 := hP1.free 0; have f1 := hP1.free 1; have f2 := hP1.free 2; have f3 := hP1.free 3; have f4 := hP1.free 4; obtain ⟨u0, u1, u2, u3, u4, hR1⟩ := hR.grown hg1 (by simp); have t0 := hR1.cell (i := 0) rfl; have t1 := hR1.cell (i := 1) rfl; have t2 := hR1.cell (i := 2) rfl; have t3 := hR1.cell (i := 3) rfl; have t4 := hR1.cell (i := 4) rfl; have g0 := hR1.free 0; have g1 := hR1.free 1; have g2 := hR1.free 2; have g3 := hR1.free 3; have g4 := hR1.free 4)
      refine bodyPost_ret (v := .agg #[.int .u64 r.x0, .int .u64 r.x1, .int .u64 r.x2, .int .u64 r.x3, .int .u64 r.x4]) ?_ rfl ⟨r, ?_, rfl, ?_, ?_⟩
      · simp [results, Tryz.results122, go_sem, t0, t1, t2, t3, t4]
      · have e := hr.out
        rw [HQ.out] at e
        exact e
      · exact gb_set_new (gb_set_new (gb_set_new (gb_set_new (gb_set_new (gb_set (gb_set (gb_set (gb_set (gb_set (gb_trans hg (gb_row hg1 _)) _ _) _ _) _ _) _ _) _ _) (by simp) _) (by simp) _) (by simp) _) (by simp) _) (by simp) _
      · exact (((((Room5.set5 ⟨_, _, _, _, _, hP1⟩ (.int .u64 r.x0) (.int .u64 r.x1) (.int .u64 r.x2) (.int .u64 r.x3) (.int .u64 r.x4)).other (by simp; omega) _).other (by simp; omega) _).other (by simp; omega) _).other (by simp; omega) _).other (by simp; omega) _
end Go.Proofs.YtcmnecnbcohaeaaGreatDoor

/- field: manyOnes: a step that stands at a to the power 2^250 - 1. -/
namespace Go.Proofs.YtcmnecnbcohaeaaGreatDoor
open Go.RowKit
def ones1 (a : Fe) : Fe := stepF 1 a a
def ones2 (a : Fe) : Fe := stepF 2 (ones1 a) (ones1 a)
def ones3 (a : Fe) : Fe := stepF 1 (ones2 a) a
def ones4 (a : Fe) : Fe := stepF 5 (ones3 a) (ones3 a)
def ones5 (a : Fe) : Fe := stepF 10 (ones4 a) (ones4 a)
def ones6 (a : Fe) : Fe := stepF 20 (ones5 a) (ones5 a)
def ones7 (a : Fe) : Fe := stepF 10 (ones6 a) (ones4 a)
def ones8 (a : Fe) : Fe := stepF 50 (ones7 a) (ones7 a)
def ones9 (a : Fe) : Fe := stepF 100 (ones8 a) (ones8 a)
def ones10 (a : Fe) : Fe := stepF 50 (ones9 a) (ones7 a)
theorem stepF_ok (n : Nat) (p b : Fe) : (stepF n p b).Ok := (Fe.mul_right _ _).ok

set_option maxRecDepth 100000 in
set_option maxHeartbeats 1600000 in
theorem manyOnes_any (a : Fe) (w : World) (ha : a.Ok) :
    Calls Tryz.prog 49 #[.agg #[.int .u64 a.x0, .int .u64 a.x1, .int .u64 a.x2, .int .u64 a.x3, .int .u64 a.x4]] w fun e w' => ∃ (C : Nat) (r : Fe), Hid (r = ones10 a) ∧ e = .returned (.func (.func 122) #[] #[.pointer (some ⟨C, 0, none⟩)]) ∧ w.grownBy w' none ∧ w.heap.size ≤ C ∧ Blk w' C 27 (feL r) := by
  go_enter Tryz.func49, Tryz.ntmps49
  have hA0 : Blk (w.alloc (.cells #[.int .u64 a.x0, .int .u64 a.x1, .int .u64 a.x2, .int .u64 a.x3, .int .u64 a.x4] 27)) w.heap.size 27 (feL a) := Blk.new w (feL a) _
  go_wp2_with fail
  refine (powers_any a _).mono ?_
  rintro e v0 ⟨rfl, hg0, hP0⟩
  have hsz : (w.alloc (.cells #[.int .u64 a.x0, .int .u64 a.x1, .int .u64 a.x2, .int .u64 a.x3, .int .u64 a.x4] 27)).heap.size = w.heap.size + 1 := by simp
  rw [hsz] at hP0
  clear hsz
  have G0 := gb_trans (gb_alloc (gb_refl w none) _) hg0
  have hAv0 := hA0.grown hg0 (by simp)
  have lt0 := hP0.lt
  clear hA0 hg0
  have cA0 := hAv0.cell (i := 0) rfl
  have cA1 := hAv0.cell (i := 1) rfl
  have cA2 := hAv0.cell (i := 2) rfl
  have cA3 := hAv0.cell (i := 3) rfl
  have cA4 := hAv0.cell (i := 4) rfl
  go_wp2_with fail
  refine (step_any (w.heap.size + 1 + 1) 1 a a _ (by decide) ha ha hP0).mono ?_
  rintro e v1 ⟨r1, hr1, rfl, hg1, hP1⟩
  have G1 := gb_then G0 hg1 (by omega)
  have lt1 := hP1.lt
  have ok1 : r1.Ok := by rw [hr1.out]; exact stepF_ok _ _ _
  have h_a_1 := hAv0.grown hg1 (some_ne (by omega))
  clear hg1 G0 hP0 hAv0
  clear cA0 cA1 cA2 cA3 cA4
  have h_two_n : Blk (v1.alloc (.cells #[.int .u64 r1.x0, .int .u64 r1.x1, .int .u64 r1.x2, .int .u64 r1.x3, .int .u64 r1.x4] 27)) v1.heap.size 27 (feL r1) := Blk.new v1 (feL r1) _
  go_wp2_with fail
  refine (step_any (w.heap.size + 1 + 1) 2 r1 r1 _ (by decide) ok1 ok1 (hP1.alloc _)).mono ?_
  rintro e v2 ⟨r2, hr2, rfl, hg2, hP2⟩
  have G2 := gb_then (gb_alloc G1 _) hg2 (by omega)
  have lt2 := hP2.lt
  have ok2 : r2.Ok := by rw [hr2.out]; exact stepF_ok _ _ _
  have h_a_2 := (h_a_1.alloc _).grown hg2 (some_ne (by omega))
  clear hg2 G1 hP1 h_a_1 h_two_n
  skip
  have c2_0 := h_a_2.cell (i := 0) rfl
  have c2_1 := h_a_2.cell (i := 1) rfl
  have c2_2 := h_a_2.cell (i := 2) rfl
  have c2_3 := h_a_2.cell (i := 3) rfl
  have c2_4 := h_a_2.cell (i := 4) rfl
  go_wp2_with fail
  refine (step_any (w.heap.size + 1 + 1) 1 r2 a _ (by decide) ok2 ha hP2).mono ?_
  rintro e v3 ⟨r3, hr3, rfl, hg3, hP3⟩
  have G3 := gb_then G2 hg3 (by omega)
  have lt3 := hP3.lt
  have ok3 : r3.Ok := by rw [hr3.out]; exact stepF_ok _ _ _
  clear hg3 G2 hP2 h_a_2
  clear c2_0 c2_1 c2_2 c2_3 c2_4
  have h_five_n : Blk (v3.alloc (.cells #[.int .u64 r3.x0, .int .u64 r3.x1, .int .u64 r3.x2, .int .u64 r3.x3, .int .u64 r3.x4] 27)) v3.heap.size 27 (feL r3) := Blk.new v3 (feL r3) _
  go_wp2_with fail
  refine (step_any (w.heap.size + 1 + 1) 5 r3 r3 _ (by decide) ok3 ok3 (hP3.alloc _)).mono ?_
  rintro e v4 ⟨r4, hr4, rfl, hg4, hP4⟩
  have G4 := gb_then (gb_alloc G3 _) hg4 (by omega)
  have lt4 := hP4.lt
  have ok4 : r4.Ok := by rw [hr4.out]; exact stepF_ok _ _ _
  clear hg4 G3 hP3 h_five_n
  skip
  have h_ten_n : Blk (v4.alloc (.cells #[.int .u64 r4.x0, .int .u64 r4.x1, .int .u64 r4.x2, .int .u64 r4.x3, .int .u64 r4.x4] 27)) v4.heap.size 27 (feL r4) := Blk.new v4 (feL r4) _
  go_wp2_with fail
  refine (step_any (w.heap.size + 1 + 1) 10 r4 r4 _ (by decide) ok4 ok4 (hP4.alloc _)).mono ?_
  rintro e v5 ⟨r5, hr5, rfl, hg5, hP5⟩
  have G5 := gb_then (gb_alloc G4 _) hg5 (by omega)
  have lt5 := hP5.lt
  have ok5 : r5.Ok := by rw [hr5.out]; exact stepF_ok _ _ _
  have h_ten_5 := h_ten_n.grown hg5 (some_ne (by omega))
  clear hg5 G4 hP4 h_ten_n
  skip
  have h_twenty_n : Blk (v5.alloc (.cells #[.int .u64 r5.x0, .int .u64 r5.x1, .int .u64 r5.x2, .int .u64 r5.x3, .int .u64 r5.x4] 27)) v5.heap.size 27 (feL r5) := Blk.new v5 (feL r5) _
  go_wp2_with fail
  refine (step_any (w.heap.size + 1 + 1) 20 r5 r5 _ (by decide) ok5 ok5 (hP5.alloc _)).mono ?_
  rintro e v6 ⟨r6, hr6, rfl, hg6, hP6⟩
  have G6 := gb_then (gb_alloc G5 _) hg6 (by omega)
  have lt6 := hP6.lt
  have ok6 : r6.Ok := by rw [hr6.out]; exact stepF_ok _ _ _
  have h_ten_6 := (h_ten_5.alloc _).grown hg6 (some_ne (by omega))
  clear hg6 G5 hP5 h_ten_5 h_twenty_n
  skip
  have c6_0 := h_ten_6.cell (i := 0) rfl
  have c6_1 := h_ten_6.cell (i := 1) rfl
  have c6_2 := h_ten_6.cell (i := 2) rfl
  have c6_3 := h_ten_6.cell (i := 3) rfl
  have c6_4 := h_ten_6.cell (i := 4) rfl
  go_wp2_with fail
  refine (step_any (w.heap.size + 1 + 1) 10 r6 r4 _ (by decide) ok6 ok4 hP6).mono ?_
  rintro e v7 ⟨r7, hr7, rfl, hg7, hP7⟩
  have G7 := gb_then G6 hg7 (by omega)
  have lt7 := hP7.lt
  have ok7 : r7.Ok := by rw [hr7.out]; exact stepF_ok _ _ _
  clear hg7 G6 hP6 h_ten_6
  clear c6_0 c6_1 c6_2 c6_3 c6_4
  have h_fifty_n : Blk (v7.alloc (.cells #[.int .u64 r7.x0, .int .u64 r7.x1, .int .u64 r7.x2, .int .u64 r7.x3, .int .u64 r7.x4] 27)) v7.heap.size 27 (feL r7) := Blk.new v7 (feL r7) _
  go_wp2_with fail
  refine (step_any (w.heap.size + 1 + 1) 50 r7 r7 _ (by decide) ok7 ok7 (hP7.alloc _)).mono ?_
  rintro e v8 ⟨r8, hr8, rfl, hg8, hP8⟩
  have G8 := gb_then (gb_alloc G7 _) hg8 (by omega)
  have lt8 := hP8.lt
  have ok8 : r8.Ok := by rw [hr8.out]; exact stepF_ok _ _ _
  have h_fifty_8 := h_fifty_n.grown hg8 (some_ne (by omega))
  clear hg8 G7 hP7 h_fifty_n
  skip
  have h_hundred_n : Blk (v8.alloc (.cells #[.int .u64 r8.x0, .int .u64 r8.x1, .int .u64 r8.x2, .int .u64 r8.x3, .int .u64 r8.x4] 27)) v8.heap.size 27 (feL r8) := Blk.new v8 (feL r8) _
  go_wp2_with fail
  refine (step_any (w.heap.size + 1 + 1) 100 r8 r8 _ (by decide) ok8 ok8 (hP8.alloc _)).mono ?_
  rintro e v9 ⟨r9, hr9, rfl, hg9, hP9⟩
  have G9 := gb_then (gb_alloc G8 _) hg9 (by omega)
  have lt9 := hP9.lt
  have ok9 : r9.Ok := by rw [hr9.out]; exact stepF_ok _ _ _
  have h_fifty_9 := (h_fifty_8.alloc _).grown hg9 (some_ne (by omega))
  clear hg9 G8 hP8 h_fifty_8 h_hundred_n
  skip
  have c9_0 := h_fifty_9.cell (i := 0) rfl
  have c9_1 := h_fifty_9.cell (i := 1) rfl
  have c9_2 := h_fifty_9.cell (i := 2) rfl
  have c9_3 := h_fifty_9.cell (i := 3) rfl
  have c9_4 := h_fifty_9.cell (i := 4) rfl
  go_wp2_with fail
  refine (step_any (w.heap.size + 1 + 1) 50 r9 r7 _ (by decide) ok9 ok7 hP9).mono ?_
  rintro e v10 ⟨r10, hr10, rfl, hg10, hP10⟩
  have G10 := gb_then G9 hg10 (by omega)
  have lt10 := hP10.lt
  have ok10 : r10.Ok := by rw [hr10.out]; exact stepF_ok _ _ _
  clear hg10 G9 hP9 h_fifty_9
  clear c9_0 c9_1 c9_2 c9_3 c9_4
  go_wp2_with fail
  skip
  go_ret
  have e1 : r1 = ones1 a := hr1.out
  have e2 : r2 = ones2 a := by rw [hr2.out, e1]; rfl
  have e3 : r3 = ones3 a := by rw [hr3.out, e2]; rfl
  have e4 : r4 = ones4 a := by rw [hr4.out, e3]; rfl
  have e5 : r5 = ones5 a := by rw [hr5.out, e4]; rfl
  have e6 : r6 = ones6 a := by rw [hr6.out, e5]; rfl
  have e7 : r7 = ones7 a := by rw [hr7.out, e6, e4]; rfl
  have e8 : r8 = ones8 a := by rw [hr8.out, e7]; rfl
  have e9 : r9 = ones9 a := by rw [hr9.out, e8]; rfl
  have e10 : r10 = ones10 a := by rw [hr10.out, e9, e7]; rfl
  exact ⟨_, r10, Lib.hid e10, rfl, G10, by omega, hP10⟩
end Go.Proofs.YtcmnecnbcohaeaaGreatDoor

/- field: regions that draw their order over elements: what slots hold, what stays. -/
namespace Go.Proofs.YtcmnecnbcohaeaaGreatDoor
open Go.RowKit

/-- what a slot has: anything, a value, or a pointer to a new block -/
inductive Item where
  | any
  | val (x : Value)
  | ptr
/-- a block that is new to w0, and none of env's -/
def Okb (w0 : World) (env : List (Nat × Fe)) (B : Nat) : Prop := w0.heap.size ≤ B ∧ ∀ p ∈ env, p.1 ≠ B
def Item.holds (K : Nat → Prop) : Item → Value → World → Prop
  | .any, _, _ => True
  | .val x, v, _ => v = x
  | .ptr, v, w => ∃ Bn, v = .pointer (some ⟨Bn, 0, none⟩) ∧ Room5 w Bn 27 ∧ K Bn
def itemsG (K : Nat → Prop) (L : List Item) (d : Nat) (v : Value) (w : World) : Prop := (L.getD d .any).holds K v w
def set5W (w : World) (B : Nat) (r : Fe) : World :=
  ((((w.setCell ⟨B, 0, none⟩ (.int .u64 r.x0)).setCell ⟨B, 1, none⟩ (.int .u64 r.x1)).setCell ⟨B, 2, none⟩ (.int .u64 r.x2)).setCell ⟨B, 3, none⟩ (.int .u64 r.x3)).setCell ⟨B, 4, none⟩ (.int .u64 r.x4)
def Rel5 (r : Fe) (w w' : World) : Prop := w.grownBy w' none ∨ ∃ Bn, w' = set5W w Bn r ∧ Room5 w Bn 27
theorem rel5_refl (r : Fe) (w : World) : Rel5 r w w := Or.inl (gb_refl _ _)
theorem set5W_room {w : World} {B : Nat} {r : Fe} {T : TypeId} (h : Room5 w B T) (C : Nat) : Room5 (set5W w C r) B T := by
  by_cases e : C = B
  · subst e; exact ⟨_, _, _, _, _, h.set5 _ _ _ _ _⟩
  · exact room5_set (room5_set (room5_set (room5_set (room5_set h e _) e _) e _) e _) e _
theorem set5W_other {w : World} {B C : Nat} {r : Fe} {T : TypeId} {L : List Value} (h : Blk w B T L) (e : C ≠ B) : Blk (set5W w C r) B T L :=
  ((((h.other e _).other e _).other e _).other e _).other e _
theorem set5W_same {w : World} {B : Nat} {r : Fe} {T : TypeId} (h : Room5 w B T) : Blk (set5W w B r) B T (feL r) := h.set5 _ _ _ _ _
theorem items_stab (K : Nat → Prop) (L : List Item) (r : Fe) (d : Nat) (v : Value) (w w' : World) (hR : Rel5 r w w') (h : itemsG K L d v w) : itemsG K L d v w' := by
  unfold itemsG at *
  cases hx : L.getD d .any with
  | any => trivial
  | val x => rw [hx] at h; exact h
  | ptr =>
    rw [hx] at h
    obtain ⟨Bn, hv, hr, hN⟩ := h
    refine ⟨Bn, hv, ?_, hN⟩
    rcases hR with hg | ⟨C, rfl, _⟩
    · exact hr.grown hg (by simp)
    · exact set5W_room hr C
def Stored (K : Nat → Prop) (r : Fe) (_ : Nat) (u : Value) (w : World) : Prop := ∃ Bn, u = .pointer (some ⟨Bn, 0, none⟩) ∧ K Bn ∧ Blk w Bn 27 (feL r)
theorem stored_stab (K : Nat → Prop) (r : Fe) (j : Nat) (u : Value) (w w' : World) (hR : Rel5 r w w') (h : Stored K r j u w) : Stored K r j u w' := by
  obtain ⟨Bn, hu, hN, hb⟩ := h
  refine ⟨Bn, hu, hN, ?_⟩
  rcases hR with hg | ⟨C, rfl, hr⟩
  · exact hb.grown hg (by simp)
  · by_cases e : C = Bn
    · subst e; exact set5W_same hr
    · exact set5W_other hb e
/-- blocks that hold elements, and blocks of five cells -/
structure EnvB (w0 : World) (N : Nat) (env : List (Nat × Fe)) (rooms : List Nat) (w : World) : Prop where
  g : w0.grownBy w none
  e : ∀ p ∈ env, Blk w p.1 27 (feL p.2)
  r : ∀ B ∈ rooms, Room5 w B 27
  n : ∀ p ∈ env, p.1 < N
  l : N ≤ w.heap.size
  m : w0.heap.size ≤ N
theorem EnvB.grown {w0 : World} {N : Nat} {env : List (Nat × Fe)} {rooms : List Nat} {w w' : World} (h : EnvB w0 N env rooms w) (hg : w.grownBy w' none) : EnvB w0 N env rooms w' :=
  ⟨gb_trans h.g hg, fun p hp => (h.e p hp).grown hg (by simp), fun B hB => (h.r B hB).grown hg (by simp), h.n, Nat.le_trans h.l hg.size, h.m⟩
theorem EnvB.set {w0 : World} {N : Nat} {env : List (Nat × Fe)} {rooms : List Nat} {w : World} (h : EnvB w0 N env rooms w) {B : Nat} (hB : Okb w0 env B) (r : Fe) : EnvB w0 N env rooms (set5W w B r) :=
  ⟨gb_set5 h.g hB.1 _ _ _ _ _, fun p hp => set5W_other (h.e p hp) (Ne.symm (hB.2 p hp)), fun C hC => set5W_room (h.r C hC) B, h.n, by show N ≤ _; have := h.l; simpa [set5W, World.setCell] using this, h.m⟩
theorem EnvB.fresh {w0 : World} {N : Nat} {env : List (Nat × Fe)} {rooms : List Nat} {w : World} (h : EnvB w0 N env rooms w) : Okb w0 env w.heap.size :=
  ⟨Nat.le_trans h.m h.l, fun p hp => by have := h.n p hp; have := h.l; omega⟩
/-- the frame, slot by slot -/
def AllAt (a : Act) : Nat → List Value → Prop
  | _, [] => True
  | i, v :: r => a.tmps.getD i undef = v ∧ AllAt a (i + 1) r
theorem allAt_get {a : Act} : ∀ (vs : List Value) (i k : Nat) (v : Value), AllAt a i vs → vs[k]? = some v → a.tmps.getD (i + k) undef = v := by
  intro vs
  induction vs with
  | nil => intro i k v _ h; simp at h
  | cons x r ih =>
    intro i k v h hk
    cases k with
    | zero => simp at hk; subst hk; exact h.1
    | succ k => have := ih (i + 1) k v h.2 (by simpa using hk); rwa [show i + (k + 1) = i + 1 + k by omega]
theorem frame_is {a : Act} {vs : List Value} (hs : a.tmps.size = vs.length) (h : AllAt a 0 vs) (hd : a.defers = []) : a = { tmps := vs.toArray, defers := [] } := by
  have ht : a.tmps = vs.toArray := by
    apply Array.ext_getElem?
    intro i
    by_cases hi : i < a.tmps.size
    · have h2 : i < vs.length := by omega
      have := allAt_get vs 0 i vs[i] h (List.getElem?_eq_getElem h2)
      rw [Nat.zero_add] at this
      simp [hi] at this
      rw [Array.getElem?_eq_getElem hi, this]
      simp [h2]
    · rw [Array.getElem?_eq_none (by omega), Array.getElem?_eq_none (by simp; omega)]
  cases a
  simp at ht hd
  rw [ht, hd]
theorem v_of (a : Fe) : a.v = .agg #[.int .u64 a.x0, .int .u64 a.x1, .int .u64 a.x2, .int .u64 a.x3, .int .u64 a.x4] := rfl
/-- an element's value is loaded -/
theorem feOut_v {F : Fe} {w : World} {e : Ending} {w' : World} (h : FeOut F w e w') : e = .returned F.v ∧ w.grownBy w' none := feOut_is h
theorem gb_drewn (w : World) : w.grownBy w.drew none := gb_drew (gb_refl _ _)
end Go.Proofs.YtcmnecnbcohaeaaGreatDoor

/- field: fits. -/
namespace Go.Proofs.YtcmnecnbcohaeaaGreatDoor
open Go.RowKit
set_option maxRecDepth 100000 in
set_option maxHeartbeats 1600000 in
theorem fits_any (p q s : Fe) (w0 : World) (okp : p.Ok) (okq : q.Ok) (oks : s.Ok) :
    Calls Tryz.prog 48 #[.agg #[.int .u64 p.x0, .int .u64 p.x1, .int .u64 p.x2, .int .u64 p.x3, .int .u64 p.x4], .agg #[.int .u64 q.x0, .int .u64 q.x1, .int .u64 q.x2, .int .u64 q.x3, .int .u64 q.x4], .agg #[.int .u64 s.x0, .int .u64 s.x1, .int .u64 s.x2, .int .u64 s.x3, .int .u64 s.x4]] w0 fun e w' => e = .returned (.bool (decide (Fe.m (Fe.mulF (Fe.sqF p) s) = Fe.m q))) ∧ w0.grownBy w' none := by
  go_enter Tryz.func48, Tryz.ntmps48
  go_wp2
  have hB0 : EnvB w0 (w0.heap.size + 3) [(w0.heap.size, p), ((w0.heap.size + 1), q), ((w0.heap.size + 1 + 1), s)] [] (((w0.alloc (.cells #[.int .u64 p.x0, .int .u64 p.x1, .int .u64 p.x2, .int .u64 p.x3, .int .u64 p.x4] 27)).alloc (.cells #[.int .u64 q.x0, .int .u64 q.x1, .int .u64 q.x2, .int .u64 q.x3, .int .u64 q.x4] 27)).alloc (.cells #[.int .u64 s.x0, .int .u64 s.x1, .int .u64 s.x2, .int .u64 s.x3, .int .u64 s.x4] 27)) :=
    ⟨gb_alloc (gb_alloc (gb_alloc (gb_refl _ _) _) _) _, by
      intro p hp
      simp only [List.mem_cons, List.not_mem_nil, or_false] at hp
      rcases hp with rfl | rfl | rfl
      · exact ((Blk.new w0 (feL _) _).alloc _).alloc _
      · exact (Blk.newAt (w0.alloc _) (feL _) _ (by simp)).alloc _
      · exact Blk.newAt _ (feL _) _ (by simp), by simp, by intro p hp; simp only [List.mem_cons, List.not_mem_nil, or_false] at hp; rcases hp with rfl | rfl | rfl <;> simp only [] <;> omega, by simp, by omega⟩
  refine wp_region_flow2 (itemsG (Okb w0 [(w0.heap.size, p), ((w0.heap.size + 1), q), ((w0.heap.size + 1 + 1), s)]) [.any, .any, .any, .any, .any, .any, .val (.bool (decide (Fe.m (Fe.mulF (Fe.sqF p) s) = Fe.m q))), .val p.v, .val (Fe.sqF p).v, .val s.v, .val (Fe.mulF (Fe.sqF p) s).v, .val q.v, .val (.bool (decide (Fe.m (Fe.mulF (Fe.sqF p) s) = Fe.m q)))]) (fun j =>  0) (Stored (Okb w0 [(w0.heap.size, p), ((w0.heap.size + 1), q), ((w0.heap.size + 1 + 1), s)]) (Fe.zeroF)) (EnvB w0 (w0.heap.size + 3) [(w0.heap.size, p), ((w0.heap.size + 1), q), ((w0.heap.size + 1 + 1), s)] []) (Rel5 (Fe.zeroF)) (by kernel_rfl) (by kernel_rfl) (by kernel_rfl) (hB0.grown (gb_drewn _)) (fun d u w1 w2 hR h => items_stab _ _ _ d u w1 w2 hR h) (fun j u w1 w2 hR h => stored_stab _ _ j u w1 w2 hR h) (by kernel_rfl) ?_ ?_
  · refine ⟨flow2_value rfl rfl fun a w h => ?_, ?_⟩
    · have e3 : a.tmps.getD 3 undef = .pointer (some ⟨w0.heap.size, 0, none⟩) := h.rest 3 (by kernel_rfl)
      have hb := h.base.e (w0.heap.size, p) (by simp)
      have c0 : w.cell? ⟨w0.heap.size, 0, none⟩ = some (.int .u64 p.x0) := hb.cell (i := 0) rfl
      have c1 : w.cell? ⟨w0.heap.size, 1, none⟩ = some (.int .u64 p.x1) := hb.cell (i := 1) rfl
      have c2 : w.cell? ⟨w0.heap.size, 2, none⟩ = some (.int .u64 p.x2) := hb.cell (i := 2) rfl
      have c3 : w.cell? ⟨w0.heap.size, 3, none⟩ = some (.int .u64 p.x3) := hb.cell (i := 3) rfl
      have c4 : w.cell? ⟨w0.heap.size, 4, none⟩ = some (.int .u64 p.x4) := hb.cell (i := 4) rfl
      refine ⟨.agg #[.int .u64 p.x0, .int .u64 p.x1, .int .u64 p.x2, .int .u64 p.x3, .int .u64 p.x4], w, ?_, h.base, rel5_refl _ _, rfl⟩
      clear h hb
      simp only [execOp, Act.eval, e3]
      go_simp
    refine ⟨flow2_call rfl rfl fun a w h => ?_, ?_⟩
    · have e7 : a.tmps.getD 7 undef = p.v := h.dep 7 (by kernel_rfl)
      have e7x : a.tmps[7]?.getD undef = p.v := by simpa using e7
      have hb := h.base
      refine ⟨38, #[p.v], ?_, ?_⟩
      · clear h hb e7
        go_simp
      · refine (sq_fe p w okp).mono ?_
        intro e w1 hp
        obtain ⟨rfl, hg⟩ := feOut_is hp
        exact ⟨_, rfl, hb.grown hg, Or.inl hg, rfl⟩
    refine ⟨flow2_value rfl rfl fun a w h => ?_, ?_⟩
    · have e5 : a.tmps.getD 5 undef = .pointer (some ⟨(w0.heap.size + 1 + 1), 0, none⟩) := h.rest 5 (by kernel_rfl)
      have hb := h.base.e ((w0.heap.size + 1 + 1), s) (by simp)
      have c0 : w.cell? ⟨(w0.heap.size + 1 + 1), 0, none⟩ = some (.int .u64 s.x0) := hb.cell (i := 0) rfl
      have c1 : w.cell? ⟨(w0.heap.size + 1 + 1), 1, none⟩ = some (.int .u64 s.x1) := hb.cell (i := 1) rfl
      have c2 : w.cell? ⟨(w0.heap.size + 1 + 1), 2, none⟩ = some (.int .u64 s.x2) := hb.cell (i := 2) rfl
      have c3 : w.cell? ⟨(w0.heap.size + 1 + 1), 3, none⟩ = some (.int .u64 s.x3) := hb.cell (i := 3) rfl
      have c4 : w.cell? ⟨(w0.heap.size + 1 + 1), 4, none⟩ = some (.int .u64 s.x4) := hb.cell (i := 4) rfl
      refine ⟨.agg #[.int .u64 s.x0, .int .u64 s.x1, .int .u64 s.x2, .int .u64 s.x3, .int .u64 s.x4], w, ?_, h.base, rel5_refl _ _, rfl⟩
      clear h hb
      simp only [execOp, Act.eval, e5]
      go_simp
    refine ⟨flow2_call rfl rfl fun a w h => ?_, ?_⟩
    · have e8 : a.tmps.getD 8 undef = (Fe.sqF p).v := h.dep 8 (by kernel_rfl)
      have e9 : a.tmps.getD 9 undef = s.v := h.dep 9 (by kernel_rfl)
      have e8x : a.tmps[8]?.getD undef = (Fe.sqF p).v := by simpa using e8
      have e9x : a.tmps[9]?.getD undef = s.v := by simpa using e9
      have hb := h.base
      refine ⟨35, #[(Fe.sqF p).v, s.v], ?_, ?_⟩
      · clear h hb e8 e9
        go_simp
      · refine (mul_fe (Fe.sqF p) s w (Fe.sq_right _).ok oks).mono ?_
        intro e w1 hp
        obtain ⟨rfl, hg⟩ := feOut_is hp
        exact ⟨_, rfl, hb.grown hg, Or.inl hg, rfl⟩
    refine ⟨flow2_value rfl rfl fun a w h => ?_, ?_⟩
    · have e4 : a.tmps.getD 4 undef = .pointer (some ⟨(w0.heap.size + 1), 0, none⟩) := h.rest 4 (by kernel_rfl)
      have hb := h.base.e ((w0.heap.size + 1), q) (by simp)
      have c0 : w.cell? ⟨(w0.heap.size + 1), 0, none⟩ = some (.int .u64 q.x0) := hb.cell (i := 0) rfl
      have c1 : w.cell? ⟨(w0.heap.size + 1), 1, none⟩ = some (.int .u64 q.x1) := hb.cell (i := 1) rfl
      have c2 : w.cell? ⟨(w0.heap.size + 1), 2, none⟩ = some (.int .u64 q.x2) := hb.cell (i := 2) rfl
      have c3 : w.cell? ⟨(w0.heap.size + 1), 3, none⟩ = some (.int .u64 q.x3) := hb.cell (i := 3) rfl
      have c4 : w.cell? ⟨(w0.heap.size + 1), 4, none⟩ = some (.int .u64 q.x4) := hb.cell (i := 4) rfl
      refine ⟨.agg #[.int .u64 q.x0, .int .u64 q.x1, .int .u64 q.x2, .int .u64 q.x3, .int .u64 q.x4], w, ?_, h.base, rel5_refl _ _, rfl⟩
      clear h hb
      simp only [execOp, Act.eval, e4]
      go_simp
    refine ⟨flow2_call rfl rfl fun a w h => ?_, ?_⟩
    · have e10 : a.tmps.getD 10 undef = (Fe.mulF (Fe.sqF p) s).v := h.dep 10 (by kernel_rfl)
      have e11 : a.tmps.getD 11 undef = q.v := h.dep 11 (by kernel_rfl)
      have e10x : a.tmps[10]?.getD undef = (Fe.mulF (Fe.sqF p) s).v := by simpa using e10
      have e11x : a.tmps[11]?.getD undef = q.v := by simpa using e11
      have hb := h.base
      refine ⟨21, #[(Fe.mulF (Fe.sqF p) s).v, q.v], ?_, ?_⟩
      · clear h hb e10 e11
        go_simp
      · refine (same_any (Fe.mulF (Fe.sqF p) s) q w (Fe.mul_right _ _).ok okq).mono ?_
        intro e w1 hp
        obtain ⟨rfl, hg⟩ := hp
        exact ⟨_, rfl, hb.grown hg, Or.inl hg, rfl⟩
    refine ⟨flow2_value rfl rfl fun a w h => ?_, ?_⟩
    · have e12 : a.tmps.getD 12 undef = .bool (decide (Fe.m (Fe.mulF (Fe.sqF p) s) = Fe.m q)) := h.dep 12 (by kernel_rfl)
      refine ⟨.bool (decide (Fe.m (Fe.mulF (Fe.sqF p) s) = Fe.m q)), w, ?_, h.base, rel5_refl _ _, rfl⟩
      clear h
      simp only [execOp, Act.eval, e12]
      go_simp
    trivial
  · intro a w1 hB hsz hdf hrest hslots hmems
    have hg := hB.g
    obtain rfl := frame_is (a := a) (vs := [.agg #[.int .u64 p.x0, .int .u64 p.x1, .int .u64 p.x2, .int .u64 p.x3, .int .u64 p.x4], .agg #[.int .u64 q.x0, .int .u64 q.x1, .int .u64 q.x2, .int .u64 q.x3, .int .u64 q.x4], .agg #[.int .u64 s.x0, .int .u64 s.x1, .int .u64 s.x2, .int .u64 s.x3, .int .u64 s.x4], .pointer (some ⟨w0.heap.size, 0, none⟩), .pointer (some ⟨w0.heap.size + 1, 0, none⟩), .pointer (some ⟨w0.heap.size + 1 + 1, 0, none⟩), .bool (decide (Fe.m (Fe.mulF (Fe.sqF p) s) = Fe.m q)), p.v, (Fe.sqF p).v, s.v, (Fe.mulF (Fe.sqF p) s).v, q.v, .bool (decide (Fe.m (Fe.mulF (Fe.sqF p) s) = Fe.m q))]) hsz ⟨hrest 0 (by kernel_rfl), hrest 1 (by kernel_rfl), hrest 2 (by kernel_rfl), hrest 3 (by kernel_rfl), hrest 4 (by kernel_rfl), hrest 5 (by kernel_rfl), hslots 6 (by kernel_rfl), hslots 7 (by kernel_rfl), hslots 8 (by kernel_rfl), hslots 9 (by kernel_rfl), hslots 10 (by kernel_rfl), hslots 11 (by kernel_rfl), hslots 12 (by kernel_rfl), trivial⟩ hdf
    clear hB hsz hdf hrest hslots hmems
    go_wp2
    go_ret
    exact ⟨rfl, hg⟩
end Go.Proofs.YtcmnecnbcohaeaaGreatDoor

/- field: Invert. -/
namespace Go.Proofs.YtcmnecnbcohaeaaGreatDoor
open Go.RowKit
def invF (a : Fe) : Fe := stepF 5 (ones10 a) (Fe.mulF (Fe.sqF (Fe.sqF (Fe.sqF a))) (Fe.mulF (Fe.sqF a) a))
set_option maxRecDepth 100000 in
set_option maxHeartbeats 1600000 in
theorem invert_any (p : Fe) (w0 : World) (okp : p.Ok) :
    Calls Tryz.prog 23 #[.agg #[.int .u64 p.x0, .int .u64 p.x1, .int .u64 p.x2, .int .u64 p.x3, .int .u64 p.x4]] w0 (FeOut (invF p) w0) := by
  have hA0 : ∀ o, Blk ((w0.alloc (.cells #[.int .u64 p.x0, .int .u64 p.x1, .int .u64 p.x2, .int .u64 p.x3, .int .u64 p.x4] 27)).alloc o) w0.heap.size 27 (feL p) := fun o => (Blk.new w0 (feL p) _).alloc o
  have hR0 : Room5 ((w0.alloc (.cells #[.int .u64 p.x0, .int .u64 p.x1, .int .u64 p.x2, .int .u64 p.x3, .int .u64 p.x4] 27)).alloc (.cells #[.int .u64 0, .int .u64 0, .int .u64 0, .int .u64 0, .int .u64 0] 27)) (w0.heap.size + 1) 27 := ⟨_, _, _, _, _, Blk.newAt _ [.int .u64 0, .int .u64 0, .int .u64 0, .int .u64 0, .int .u64 0] _ (by simp)⟩
  have hg0 : ∀ c0 c1, w0.grownBy ((w0.alloc c0).alloc c1) none := fun c0 c1 => gb_alloc (gb_alloc (gb_refl _ _) _) _
  go_enter Tryz.func23, Tryz.ntmps23
  go_wp2_with fail
  refine (sq_fe p _ okp).mono ?_
  rintro e v1 ⟨q1, hq1, rfl, hg1⟩
  have ok1 : q1.Ok := by rw [hq1.out]; exact (Fe.sq_right _).ok
  have hA1 := (hA0 _).grown hg1 (by simp)
  have hR1 := hR0.grown hg1 (by simp)
  have G1 := gb_trans (hg0 _ _) hg1
  clear hA0 hR0 hg0 hg1
  go_wp2_with fail
  refine (sq_fe q1 _ ok1).mono ?_
  rintro e v2 ⟨q2, hq2, rfl, hg2⟩
  have ok2 : q2.Ok := by rw [hq2.out]; exact (Fe.sq_right _).ok
  have hA2 := hA1.grown hg2 (by simp)
  have hR2 := hR1.grown hg2 (by simp)
  have G2 := gb_trans G1 hg2
  clear hA1 hR1 G1 hg2
  go_wp2_with fail
  refine (sq_fe q2 _ ok2).mono ?_
  rintro e v3 ⟨q3, hq3, rfl, hg3⟩
  have okq3 : q3.Ok := by rw [hq3.out]; exact (Fe.sq_right _).ok
  have hA3 := hA2.grown hg3 (by simp)
  have hR3 := hR2.grown hg3 (by simp)
  have G3 := gb_trans G2 hg3
  have hlt := hR3
  obtain ⟨_, _, _, _, _, hlt⟩ := hlt
  have hlt := hlt.lt
  clear hA2 hR2 G2 hg3
  have hB0 : EnvB w0 (v3.heap.size + 1) [(w0.heap.size, p), (v3.heap.size, q3)] [(w0.heap.size + 1)] (v3.alloc (.cells #[.int .u64 q3.x0, .int .u64 q3.x1, .int .u64 q3.x2, .int .u64 q3.x3, .int .u64 q3.x4] 27)) :=
    ⟨gb_alloc G3 _, by
      intro z hz
      simp only [List.mem_cons, List.not_mem_nil, or_false] at hz
      rcases hz with rfl | rfl
      · exact hA3.alloc _
      · exact Blk.new v3 (feL _) _, by
      intro B hB
      simp only [List.mem_cons, List.not_mem_nil, or_false] at hB
      subst hB
      exact hR3.grown (World.grownBy_alloc _ _ none) (by simp), by intro z hz; simp only [List.mem_cons, List.not_mem_nil, or_false] at hz; rcases hz with rfl | rfl <;> simp only [] <;> omega, by simp, by omega⟩
  clear hA3 hR3 G3
  go_wp2_with fail
  refine wp_region_flow2 (itemsG (Okb w0 [(w0.heap.size, p), (v3.heap.size, q3)]) [.any, .any, .any, .any, .ptr, .any, .any, .any, .any, .any, .val q3.v, .val p.v, .val (Fe.sqF p).v, .val p.v, .val (Fe.mulF (Fe.sqF p) p).v, .val (Fe.mulF q3 (Fe.mulF (Fe.sqF p) p)).v, .any, .any, .any, .any, .any]) (fun j => if j = 7 then 4 else 0) (Stored (Okb w0 [(w0.heap.size, p), (v3.heap.size, q3)]) (Fe.mulF q3 (Fe.mulF (Fe.sqF p) p))) (EnvB w0 (v3.heap.size + 1) [(w0.heap.size, p), (v3.heap.size, q3)] [(w0.heap.size + 1)]) (Rel5 (Fe.mulF q3 (Fe.mulF (Fe.sqF p) p))) (by kernel_rfl) (by kernel_rfl) (by kernel_rfl) (hB0.grown (gb_drewn _)) (fun d u w1 w2 hR h => items_stab _ _ _ d u w1 w2 hR h) (fun j u w1 w2 hR h => stored_stab _ _ j u w1 w2 hR h) (by kernel_rfl) ?_ ?_
  · refine ⟨flow2_value rfl rfl fun a w h => ?_, ?_⟩
    · have e3 : a.tmps.getD 3 undef = .pointer (some ⟨v3.heap.size, 0, none⟩) := h.rest 3 (by kernel_rfl)
      have hb := h.base.e (v3.heap.size, q3) (by simp)
      have c0 : w.cell? ⟨v3.heap.size, 0, none⟩ = some (.int .u64 q3.x0) := hb.cell (i := 0) rfl
      have c1 : w.cell? ⟨v3.heap.size, 1, none⟩ = some (.int .u64 q3.x1) := hb.cell (i := 1) rfl
      have c2 : w.cell? ⟨v3.heap.size, 2, none⟩ = some (.int .u64 q3.x2) := hb.cell (i := 2) rfl
      have c3 : w.cell? ⟨v3.heap.size, 3, none⟩ = some (.int .u64 q3.x3) := hb.cell (i := 3) rfl
      have c4 : w.cell? ⟨v3.heap.size, 4, none⟩ = some (.int .u64 q3.x4) := hb.cell (i := 4) rfl
      refine ⟨.agg #[.int .u64 q3.x0, .int .u64 q3.x1, .int .u64 q3.x2, .int .u64 q3.x3, .int .u64 q3.x4], w, ?_, h.base, rel5_refl _ _, rfl⟩
      clear h hb
      simp only [execOp, Act.eval, e3]
      go_simp
    refine ⟨flow2_value rfl rfl fun a w h => ?_, ?_⟩
    · have e1 : a.tmps.getD 1 undef = .pointer (some ⟨w0.heap.size, 0, none⟩) := h.rest 1 (by kernel_rfl)
      have hb := h.base.e (w0.heap.size, p) (by simp)
      have c0 : w.cell? ⟨w0.heap.size, 0, none⟩ = some (.int .u64 p.x0) := hb.cell (i := 0) rfl
      have c1 : w.cell? ⟨w0.heap.size, 1, none⟩ = some (.int .u64 p.x1) := hb.cell (i := 1) rfl
      have c2 : w.cell? ⟨w0.heap.size, 2, none⟩ = some (.int .u64 p.x2) := hb.cell (i := 2) rfl
      have c3 : w.cell? ⟨w0.heap.size, 3, none⟩ = some (.int .u64 p.x3) := hb.cell (i := 3) rfl
      have c4 : w.cell? ⟨w0.heap.size, 4, none⟩ = some (.int .u64 p.x4) := hb.cell (i := 4) rfl
      refine ⟨.agg #[.int .u64 p.x0, .int .u64 p.x1, .int .u64 p.x2, .int .u64 p.x3, .int .u64 p.x4], w, ?_, h.base, rel5_refl _ _, rfl⟩
      clear h hb
      simp only [execOp, Act.eval, e1]
      go_simp
    refine ⟨flow2_call rfl rfl fun a w h => ?_, ?_⟩
    · have e11 : a.tmps.getD 11 undef = p.v := h.dep 11 (by kernel_rfl)
      have e11x : a.tmps[11]?.getD undef = p.v := by simpa using e11
      have hb := h.base
      refine ⟨38, #[p.v], ?_, ?_⟩
      · clear h hb e11
        go_simp
      · refine (sq_fe p w okp).mono ?_
        intro e w1 hp
        obtain ⟨rfl, hg⟩ := feOut_is hp
        exact ⟨_, rfl, hb.grown hg, Or.inl hg, rfl⟩
    refine ⟨flow2_value rfl rfl fun a w h => ?_, ?_⟩
    · have e1 : a.tmps.getD 1 undef = .pointer (some ⟨w0.heap.size, 0, none⟩) := h.rest 1 (by kernel_rfl)
      have hb := h.base.e (w0.heap.size, p) (by simp)
      have c0 : w.cell? ⟨w0.heap.size, 0, none⟩ = some (.int .u64 p.x0) := hb.cell (i := 0) rfl
      have c1 : w.cell? ⟨w0.heap.size, 1, none⟩ = some (.int .u64 p.x1) := hb.cell (i := 1) rfl
      have c2 : w.cell? ⟨w0.heap.size, 2, none⟩ = some (.int .u64 p.x2) := hb.cell (i := 2) rfl
      have c3 : w.cell? ⟨w0.heap.size, 3, none⟩ = some (.int .u64 p.x3) := hb.cell (i := 3) rfl
      have c4 : w.cell? ⟨w0.heap.size, 4, none⟩ = some (.int .u64 p.x4) := hb.cell (i := 4) rfl
      refine ⟨.agg #[.int .u64 p.x0, .int .u64 p.x1, .int .u64 p.x2, .int .u64 p.x3, .int .u64 p.x4], w, ?_, h.base, rel5_refl _ _, rfl⟩
      clear h hb
      simp only [execOp, Act.eval, e1]
      go_simp
    refine ⟨flow2_call rfl rfl fun a w h => ?_, ?_⟩
    · have e12 : a.tmps.getD 12 undef = (Fe.sqF p).v := h.dep 12 (by kernel_rfl)
      have e13 : a.tmps.getD 13 undef = p.v := h.dep 13 (by kernel_rfl)
      have e12x : a.tmps[12]?.getD undef = (Fe.sqF p).v := by simpa using e12
      have e13x : a.tmps[13]?.getD undef = p.v := by simpa using e13
      have hb := h.base
      refine ⟨35, #[(Fe.sqF p).v, p.v], ?_, ?_⟩
      · clear h hb e12 e13
        go_simp
      · refine (mul_fe (Fe.sqF p) p w (Fe.sq_right _).ok okp).mono ?_
        intro e w1 hp
        obtain ⟨rfl, hg⟩ := feOut_is hp
        exact ⟨_, rfl, hb.grown hg, Or.inl hg, rfl⟩
    refine ⟨flow2_call rfl rfl fun a w h => ?_, ?_⟩
    · have e10 : a.tmps.getD 10 undef = q3.v := h.dep 10 (by kernel_rfl)
      have e14 : a.tmps.getD 14 undef = (Fe.mulF (Fe.sqF p) p).v := h.dep 14 (by kernel_rfl)
      have e10x : a.tmps[10]?.getD undef = q3.v := by simpa using e10
      have e14x : a.tmps[14]?.getD undef = (Fe.mulF (Fe.sqF p) p).v := by simpa using e14
      have hb := h.base
      refine ⟨35, #[q3.v, (Fe.mulF (Fe.sqF p) p).v], ?_, ?_⟩
      · clear h hb e10 e14
        go_simp
      · refine (mul_fe q3 (Fe.mulF (Fe.sqF p) p) w okq3 (Fe.mul_right _ _).ok).mono ?_
        intro e w1 hp
        obtain ⟨rfl, hg⟩ := feOut_is hp
        exact ⟨_, rfl, hb.grown hg, Or.inl hg, rfl⟩
    refine ⟨flow2_value rfl rfl fun a w h => ?_, ?_⟩
    · refine ⟨.pointer (some ⟨w.heap.size, 0, none⟩), w.alloc (.cells #[.int .u64 0, .int .u64 0, .int .u64 0, .int .u64 0, .int .u64 0] 27), ?_, h.base.grown (World.grownBy_alloc _ _ _), Or.inl (World.grownBy_alloc _ _ _), ⟨w.heap.size, rfl, ⟨_, _, _, _, _, Blk.new w [.int .u64 0, .int .u64 0, .int .u64 0, .int .u64 0, .int .u64 0] _⟩, h.base.fresh⟩⟩
      clear h
      go_simp
    refine ⟨flow2_skip rfl rfl fun a w h => ?_, ?_⟩
    · obtain ⟨Bn, ep, hroom, hK⟩ : ∃ Bn, a.tmps.getD 4 undef = .pointer (some ⟨Bn, 0, none⟩) ∧ Room5 w Bn 27 ∧ (Okb w0 [(w0.heap.size, p), (v3.heap.size, q3)]) Bn := h.dep 4 (by kernel_rfl)
      have e15 : a.tmps.getD 15 undef = .agg #[.int .u64 (Fe.mulF q3 (Fe.mulF (Fe.sqF p) p)).x0, .int .u64 (Fe.mulF q3 (Fe.mulF (Fe.sqF p) p)).x1, .int .u64 (Fe.mulF q3 (Fe.mulF (Fe.sqF p) p)).x2, .int .u64 (Fe.mulF q3 (Fe.mulF (Fe.sqF p) p)).x3, .int .u64 (Fe.mulF q3 (Fe.mulF (Fe.sqF p) p)).x4] := h.dep 15 (by kernel_rfl)
      refine ⟨set5W w Bn (Fe.mulF q3 (Fe.mulF (Fe.sqF p) p)), ?_, h.base.set hK _, Or.inr ⟨Bn, rfl, hroom⟩, ⟨Bn, ep, hK, set5W_same hroom⟩⟩
      obtain ⟨u0, u1, u2, u3, u4, hR⟩ := hroom
      have c0r := hR.cell (i := 0) rfl; have f0r := hR.free 0
      have c1r := hR.cell (i := 1) rfl; have f1r := hR.free 1
      have c2r := hR.cell (i := 2) rfl; have f2r := hR.free 2
      have c3r := hR.cell (i := 3) rfl; have f3r := hR.free 3
      have c4r := hR.cell (i := 4) rfl; have f4r := hR.free 4
      clear h hK hR
      unfold set5W
      simp only [execOp, Act.eval, ep, e15]
      go_simp
    trivial
  · intro a' w1 hB hsz hdf hrest hslots hmems
    obtain ⟨Bn, hptr, hK, hb⟩ := hmems 7 _ rfl rfl
    obtain rfl := frame_is (a := a') (vs := [.agg #[.int .u64 p.x0, .int .u64 p.x1, .int .u64 p.x2, .int .u64 p.x3, .int .u64 p.x4], .pointer (some ⟨w0.heap.size, 0, none⟩), .pointer (some ⟨w0.heap.size + 1, 0, none⟩), .pointer (some ⟨v3.heap.size, 0, none⟩), .pointer (some ⟨Bn, 0, none⟩), undef, .agg #[.int .u64 p.x0, .int .u64 p.x1, .int .u64 p.x2, .int .u64 p.x3, .int .u64 p.x4], .agg #[.int .u64 q1.x0, .int .u64 q1.x1, .int .u64 q1.x2, .int .u64 q1.x3, .int .u64 q1.x4], .agg #[.int .u64 q2.x0, .int .u64 q2.x1, .int .u64 q2.x2, .int .u64 q2.x3, .int .u64 q2.x4], .agg #[.int .u64 q3.x0, .int .u64 q3.x1, .int .u64 q3.x2, .int .u64 q3.x3, .int .u64 q3.x4], q3.v, p.v, (Fe.sqF p).v, p.v, (Fe.mulF (Fe.sqF p) p).v, (Fe.mulF q3 (Fe.mulF (Fe.sqF p) p)).v, undef, undef, undef, undef, undef]) hsz ⟨hrest 0 (by kernel_rfl), hrest 1 (by kernel_rfl), hrest 2 (by kernel_rfl), hrest 3 (by kernel_rfl), hptr, hrest 5 (by kernel_rfl), hrest 6 (by kernel_rfl), hrest 7 (by kernel_rfl), hrest 8 (by kernel_rfl), hrest 9 (by kernel_rfl), hslots 10 (by kernel_rfl), hslots 11 (by kernel_rfl), hslots 12 (by kernel_rfl), hslots 13 (by kernel_rfl), hslots 14 (by kernel_rfl), hslots 15 (by kernel_rfl), hrest 16 (by kernel_rfl), hrest 17 (by kernel_rfl), hrest 18 (by kernel_rfl), hrest 19 (by kernel_rfl), hrest 20 (by kernel_rfl), trivial⟩ hdf
    clear hptr hsz hdf hrest hslots hmems hB0
    obtain ⟨f, hf⟩ : ∃ f, f = Fe.mulF q3 (Fe.mulF (Fe.sqF p) p) := ⟨_, rfl⟩
    have okf : f.Ok := by rw [hf]; exact (Fe.mul_right _ _).ok
    rw [← hf] at hb
    have Hf := Lib.hid hf; clear hf
    have hAx := hB.e (w0.heap.size, p) (by simp)
    have hRx := hB.r _ (List.mem_singleton.2 rfl)
    have G4 := hB.g
    have hltb := hb.lt
    have hKn := hK.1
    have hKa := hK.2 (w0.heap.size, p) (by simp)
    clear hK hB
    have c0 := hAx.cell (i := 0) rfl
    have c1 := hAx.cell (i := 1) rfl
    have c2 := hAx.cell (i := 2) rfl
    have c3 := hAx.cell (i := 3) rfl
    have c4 := hAx.cell (i := 4) rfl
    go_wp2_with fail
    refine (manyOnes_any p _ okp).mono ?_
    rintro e w2 ⟨C, q, hq, rfl, hg5, hC, hP⟩
    have okq : q.Ok := by rw [hq.out]; exact stepF_ok _ _ _
    have hb2 := hb.grown hg5 (by simp)
    have hR5 := hRx.grown hg5 (by simp)
    have G5 := gb_trans G4 hg5
    have hs5 := hg5.size
    clear hAx hRx hb G4 hg5 c0 c1 c2 c3 c4
    have c0 := hb2.cell (i := 0) rfl
    have c1 := hb2.cell (i := 1) rfl
    have c2 := hb2.cell (i := 2) rfl
    have c3 := hb2.cell (i := 3) rfl
    have c4 := hb2.cell (i := 4) rfl
    go_wp2_with fail
    refine (step_any C 5 q f _ (by decide) okq okf hP).mono ?_
    rintro e w3 ⟨g, hgg, rfl, hg6, hP6⟩
    have hR6 := hR5.grown hg6 (some_ne (by omega))
    have G6 := gb_then G5 hg6 (by omega)
    obtain ⟨u0, u1, u2, u3, u4, hR7⟩ := hR6
    clear hR5 hb2 G5 hg6 c0 c1 c2 c3 c4
    have t0 := hR7.cell (i := 0) rfl
    have t1 := hR7.cell (i := 1) rfl
    have t2 := hR7.cell (i := 2) rfl
    have t3 := hR7.cell (i := 3) rfl
    have t4 := hR7.cell (i := 4) rfl
    have y0 := hR7.free 0
    have y1 := hR7.free 1
    have y2 := hR7.free 2
    have y3 := hR7.free 3
    have y4 := hR7.free 4
    go_wp2_with fail
    refine bodyPost_ret (v := .agg #[.int .u64 g.x0, .int .u64 g.x1, .int .u64 g.x2, .int .u64 g.x3, .int .u64 g.x4]) ?_ rfl ⟨g, Lib.hid ?_, rfl, gb_set5 G6 (by omega) _ _ _ _ _⟩
    · simp [results, Tryz.results23, go_sem, t0, t1, t2, t3, t4]
    · rw [hgg.out, hq.out, Hf.out, hq3.out, hq2.out, hq1.out]; rfl
end Go.Proofs.YtcmnecnbcohaeaaGreatDoor

/- field: guessRoot. -/
namespace Go.Proofs.YtcmnecnbcohaeaaGreatDoor
open Go.RowKit
def guessF (u v : Fe) : Fe := Fe.mulF (Fe.mulF u (Fe.mulF (Fe.sqF v) v)) (stepF 2 (ones10 (Fe.mulF u (Fe.mulF (Fe.sqF (Fe.mulF (Fe.sqF v) v)) v))) (Fe.mulF u (Fe.mulF (Fe.sqF (Fe.mulF (Fe.sqF v) v)) v)))
set_option maxRecDepth 100000 in
set_option maxHeartbeats 1600000 in
theorem guess_any (p q : Fe) (w0 : World) (okp : p.Ok) (okq : q.Ok) :
    Calls Tryz.prog 47 #[.agg #[.int .u64 p.x0, .int .u64 p.x1, .int .u64 p.x2, .int .u64 p.x3, .int .u64 p.x4], .agg #[.int .u64 q.x0, .int .u64 q.x1, .int .u64 q.x2, .int .u64 q.x3, .int .u64 q.x4]] w0 (FeOut (guessF p q) w0) := by
  go_enter Tryz.func47, Tryz.ntmps47
  go_wp2_with fail
  have hA0 : Blk (((w0.alloc (.cells #[.int .u64 p.x0, .int .u64 p.x1, .int .u64 p.x2, .int .u64 p.x3, .int .u64 p.x4] 27)).alloc (.cells #[.int .u64 q.x0, .int .u64 q.x1, .int .u64 q.x2, .int .u64 q.x3, .int .u64 q.x4] 27)).alloc (.cells #[.int .u64 0, .int .u64 0, .int .u64 0, .int .u64 0, .int .u64 0] 27)) w0.heap.size 27 (feL p) := ((Blk.new w0 (feL p) _).alloc _).alloc _
  have hB0 : EnvB w0 (w0.heap.size + 3) [((w0.heap.size + 1), q)] [(w0.heap.size + 1 + 1)] (((w0.alloc (.cells #[.int .u64 p.x0, .int .u64 p.x1, .int .u64 p.x2, .int .u64 p.x3, .int .u64 p.x4] 27)).alloc (.cells #[.int .u64 q.x0, .int .u64 q.x1, .int .u64 q.x2, .int .u64 q.x3, .int .u64 q.x4] 27)).alloc (.cells #[.int .u64 0, .int .u64 0, .int .u64 0, .int .u64 0, .int .u64 0] 27)) :=
    ⟨gb_alloc (gb_alloc (gb_alloc (gb_refl _ _) _) _) _, by
      intro z hz
      simp only [List.mem_cons, List.not_mem_nil, or_false] at hz
      rcases hz with rfl
      · exact (Blk.newAt (w0.alloc _) (feL _) _ (by simp)).alloc _, by
      intro B hB
      simp only [List.mem_cons, List.not_mem_nil, or_false] at hB
      subst hB
      exact ⟨_, _, _, _, _, Blk.newAt _ [.int .u64 0, .int .u64 0, .int .u64 0, .int .u64 0, .int .u64 0] _ (by simp)⟩, by intro z hz; simp only [List.mem_cons, List.not_mem_nil, or_false] at hz; rcases hz with rfl <;> simp only [] <;> omega, by simp, by omega⟩
  have hA1 : ∀ w1, w0.grownBy w1 none → True := fun _ _ => trivial
  clear hA1
  have hB0 : EnvB w0 (w0.heap.size + 3) [(w0.heap.size, p), (w0.heap.size + 1, q), (w0.heap.size + 1 + 1, Fe.zeroF)] [(w0.heap.size + 1 + 1)] (((w0.alloc (.cells #[.int .u64 p.x0, .int .u64 p.x1, .int .u64 p.x2, .int .u64 p.x3, .int .u64 p.x4] 27)).alloc (.cells #[.int .u64 q.x0, .int .u64 q.x1, .int .u64 q.x2, .int .u64 q.x3, .int .u64 q.x4] 27)).alloc (.cells #[.int .u64 0, .int .u64 0, .int .u64 0, .int .u64 0, .int .u64 0] 27)) :=
    ⟨hB0.g, by
      intro z hz
      simp only [List.mem_cons, List.not_mem_nil, or_false] at hz
      rcases hz with rfl | rfl | rfl
      · exact hA0
      · exact hB0.e _ (by simp)
      · exact Blk.newAt _ (feL Fe.zeroF) _ (by simp), hB0.r, by intro z hz; simp only [List.mem_cons, List.not_mem_nil, or_false] at hz; rcases hz with rfl | rfl | rfl <;> simp only [] <;> omega, hB0.l, hB0.m⟩
  clear hA0
  refine wp_region_flow2 (itemsG (Okb w0 [(w0.heap.size, p), ((w0.heap.size + 1), q), ((w0.heap.size + 1 + 1), Fe.zeroF)]) [.any, .any, .any, .any, .any, .ptr, .any, .any, .any, .any, .val q.v, .val (Fe.sqF q).v, .val q.v, .val (Fe.mulF (Fe.sqF q) q).v, .any, .any, .any, .any, .any, .any, .any, .any, .any, .any, .any, .any, .any, .any, .any, .any, .any]) (fun j => if j = 5 then 5 else 0) (Stored (Okb w0 [(w0.heap.size, p), ((w0.heap.size + 1), q), ((w0.heap.size + 1 + 1), Fe.zeroF)]) (Fe.mulF (Fe.sqF q) q)) (EnvB w0 (w0.heap.size + 3) [(w0.heap.size, p), ((w0.heap.size + 1), q), ((w0.heap.size + 1 + 1), Fe.zeroF)] [(w0.heap.size + 1 + 1)]) (Rel5 (Fe.mulF (Fe.sqF q) q)) (by kernel_rfl) (by kernel_rfl) (by kernel_rfl) (hB0.grown (gb_drewn _)) (fun d u w1 w2 hR h => items_stab _ _ _ d u w1 w2 hR h) (fun j u w1 w2 hR h => stored_stab _ _ j u w1 w2 hR h) (by kernel_rfl) ?_ ?_
  · refine ⟨flow2_value rfl rfl fun a w h => ?_, ?_⟩
    · have e3 : a.tmps.getD 3 undef = .pointer (some ⟨(w0.heap.size + 1), 0, none⟩) := h.rest 3 (by kernel_rfl)
      have hb := h.base.e ((w0.heap.size + 1), q) (by simp)
      have c0 : w.cell? ⟨(w0.heap.size + 1), 0, none⟩ = some (.int .u64 q.x0) := hb.cell (i := 0) rfl
      have c1 : w.cell? ⟨(w0.heap.size + 1), 1, none⟩ = some (.int .u64 q.x1) := hb.cell (i := 1) rfl
      have c2 : w.cell? ⟨(w0.heap.size + 1), 2, none⟩ = some (.int .u64 q.x2) := hb.cell (i := 2) rfl
      have c3 : w.cell? ⟨(w0.heap.size + 1), 3, none⟩ = some (.int .u64 q.x3) := hb.cell (i := 3) rfl
      have c4 : w.cell? ⟨(w0.heap.size + 1), 4, none⟩ = some (.int .u64 q.x4) := hb.cell (i := 4) rfl
      refine ⟨.agg #[.int .u64 q.x0, .int .u64 q.x1, .int .u64 q.x2, .int .u64 q.x3, .int .u64 q.x4], w, ?_, h.base, rel5_refl _ _, rfl⟩
      clear h hb
      simp only [execOp, Act.eval, e3]
      go_simp
    refine ⟨flow2_call rfl rfl fun a w h => ?_, ?_⟩
    · have e10 : a.tmps.getD 10 undef = q.v := h.dep 10 (by kernel_rfl)
      have e10x : a.tmps[10]?.getD undef = q.v := by simpa using e10
      have hb := h.base
      refine ⟨38, #[q.v], ?_, ?_⟩
      · clear h hb e10
        go_simp
      · refine (sq_fe q w okq).mono ?_
        intro e w1 hp
        obtain ⟨rfl, hg⟩ := feOut_is hp
        exact ⟨_, rfl, hb.grown hg, Or.inl hg, rfl⟩
    refine ⟨flow2_value rfl rfl fun a w h => ?_, ?_⟩
    · have e3 : a.tmps.getD 3 undef = .pointer (some ⟨(w0.heap.size + 1), 0, none⟩) := h.rest 3 (by kernel_rfl)
      have hb := h.base.e ((w0.heap.size + 1), q) (by simp)
      have c0 : w.cell? ⟨(w0.heap.size + 1), 0, none⟩ = some (.int .u64 q.x0) := hb.cell (i := 0) rfl
      have c1 : w.cell? ⟨(w0.heap.size + 1), 1, none⟩ = some (.int .u64 q.x1) := hb.cell (i := 1) rfl
      have c2 : w.cell? ⟨(w0.heap.size + 1), 2, none⟩ = some (.int .u64 q.x2) := hb.cell (i := 2) rfl
      have c3 : w.cell? ⟨(w0.heap.size + 1), 3, none⟩ = some (.int .u64 q.x3) := hb.cell (i := 3) rfl
      have c4 : w.cell? ⟨(w0.heap.size + 1), 4, none⟩ = some (.int .u64 q.x4) := hb.cell (i := 4) rfl
      refine ⟨.agg #[.int .u64 q.x0, .int .u64 q.x1, .int .u64 q.x2, .int .u64 q.x3, .int .u64 q.x4], w, ?_, h.base, rel5_refl _ _, rfl⟩
      clear h hb
      simp only [execOp, Act.eval, e3]
      go_simp
    refine ⟨flow2_call rfl rfl fun a w h => ?_, ?_⟩
    · have e11 : a.tmps.getD 11 undef = (Fe.sqF q).v := h.dep 11 (by kernel_rfl)
      have e12 : a.tmps.getD 12 undef = q.v := h.dep 12 (by kernel_rfl)
      have e11x : a.tmps[11]?.getD undef = (Fe.sqF q).v := by simpa using e11
      have e12x : a.tmps[12]?.getD undef = q.v := by simpa using e12
      have hb := h.base
      refine ⟨35, #[(Fe.sqF q).v, q.v], ?_, ?_⟩
      · clear h hb e11 e12
        go_simp
      · refine (mul_fe (Fe.sqF q) q w (Fe.sq_right _).ok okq).mono ?_
        intro e w1 hp
        obtain ⟨rfl, hg⟩ := feOut_is hp
        exact ⟨_, rfl, hb.grown hg, Or.inl hg, rfl⟩
    refine ⟨flow2_value rfl rfl fun a w h => ?_, ?_⟩
    · refine ⟨.pointer (some ⟨w.heap.size, 0, none⟩), w.alloc (.cells #[.int .u64 0, .int .u64 0, .int .u64 0, .int .u64 0, .int .u64 0] 27), ?_, h.base.grown (World.grownBy_alloc _ _ _), Or.inl (World.grownBy_alloc _ _ _), ⟨w.heap.size, rfl, ⟨_, _, _, _, _, Blk.new w [.int .u64 0, .int .u64 0, .int .u64 0, .int .u64 0, .int .u64 0] _⟩, h.base.fresh⟩⟩
      clear h
      go_simp
    refine ⟨flow2_skip rfl rfl fun a w h => ?_, ?_⟩
    · obtain ⟨Bn, ep, hroom, hK⟩ : ∃ Bn, a.tmps.getD 5 undef = .pointer (some ⟨Bn, 0, none⟩) ∧ Room5 w Bn 27 ∧ (Okb w0 [(w0.heap.size, p), ((w0.heap.size + 1), q), ((w0.heap.size + 1 + 1), Fe.zeroF)]) Bn := h.dep 5 (by kernel_rfl)
      have e13 : a.tmps.getD 13 undef = .agg #[.int .u64 (Fe.mulF (Fe.sqF q) q).x0, .int .u64 (Fe.mulF (Fe.sqF q) q).x1, .int .u64 (Fe.mulF (Fe.sqF q) q).x2, .int .u64 (Fe.mulF (Fe.sqF q) q).x3, .int .u64 (Fe.mulF (Fe.sqF q) q).x4] := h.dep 13 (by kernel_rfl)
      refine ⟨set5W w Bn (Fe.mulF (Fe.sqF q) q), ?_, h.base.set hK _, Or.inr ⟨Bn, rfl, hroom⟩, ⟨Bn, ep, hK, set5W_same hroom⟩⟩
      obtain ⟨u0, u1, u2, u3, u4, hR⟩ := hroom
      have c0r := hR.cell (i := 0) rfl; have f0r := hR.free 0
      have c1r := hR.cell (i := 1) rfl; have f1r := hR.free 1
      have c2r := hR.cell (i := 2) rfl; have f2r := hR.free 2
      have c3r := hR.cell (i := 3) rfl; have f3r := hR.free 3
      have c4r := hR.cell (i := 4) rfl; have f4r := hR.free 4
      clear h hK hR
      unfold set5W
      simp only [execOp, Act.eval, ep, e13]
      go_simp
    trivial
  · intro a' w1 hB hsz hdf hrest hslots hmems
    obtain ⟨B1, hptr, hK, hb⟩ := hmems 5 _ rfl rfl
    obtain rfl := frame_is (a := a') (vs := [.agg #[.int .u64 p.x0, .int .u64 p.x1, .int .u64 p.x2, .int .u64 p.x3, .int .u64 p.x4], .agg #[.int .u64 q.x0, .int .u64 q.x1, .int .u64 q.x2, .int .u64 q.x3, .int .u64 q.x4], .pointer (some ⟨w0.heap.size, 0, none⟩), .pointer (some ⟨w0.heap.size + 1, 0, none⟩), .pointer (some ⟨w0.heap.size + 1 + 1, 0, none⟩), .pointer (some ⟨B1, 0, none⟩), undef, undef, undef, undef, q.v, (Fe.sqF q).v, q.v, (Fe.mulF (Fe.sqF q) q).v, undef, undef, undef, undef, undef, undef, undef, undef, undef, undef, undef, undef, undef, undef, undef, undef, undef]) hsz ⟨hrest 0 (by kernel_rfl), hrest 1 (by kernel_rfl), hrest 2 (by kernel_rfl), hrest 3 (by kernel_rfl), hrest 4 (by kernel_rfl), hptr, hrest 6 (by kernel_rfl), hrest 7 (by kernel_rfl), hrest 8 (by kernel_rfl), hrest 9 (by kernel_rfl), hslots 10 (by kernel_rfl), hslots 11 (by kernel_rfl), hslots 12 (by kernel_rfl), hslots 13 (by kernel_rfl), hrest 14 (by kernel_rfl), hrest 15 (by kernel_rfl), hrest 16 (by kernel_rfl), hrest 17 (by kernel_rfl), hrest 18 (by kernel_rfl), hrest 19 (by kernel_rfl), hrest 20 (by kernel_rfl), hrest 21 (by kernel_rfl), hrest 22 (by kernel_rfl), hrest 23 (by kernel_rfl), hrest 24 (by kernel_rfl), hrest 25 (by kernel_rfl), hrest 26 (by kernel_rfl), hrest 27 (by kernel_rfl), hrest 28 (by kernel_rfl), hrest 29 (by kernel_rfl), hrest 30 (by kernel_rfl), trivial⟩ hdf
    clear hptr hsz hdf hrest hslots hmems hB0
    obtain ⟨cube, hf⟩ : ∃ f, f = Fe.mulF (Fe.sqF q) q := ⟨_, rfl⟩
    have okcube : cube.Ok := by rw [hf]; exact (Fe.mul_right _ _).ok
    rw [← hf] at hb
    have Hcube := Lib.hid hf; clear hf
    have hltb := hb.lt
    have hK1 := hK.1
    have hKp := hK.2 (w0.heap.size, p) (by simp)
    have hKq := hK.2 (w0.heap.size + 1, q) (by simp)
    have hKr : w0.heap.size + 1 + 1 ≠ B1 := hK.2 (w0.heap.size + 1 + 1, Fe.zeroF) (by simp)
    have hBl := hB.l
    have hB1 : EnvB w0 w1.heap.size [(w0.heap.size, p), (w0.heap.size + 1, q), (B1, cube)] [(w0.heap.size + 1 + 1)] w1 :=
      ⟨hB.g, by
        intro z hz
        simp only [List.mem_cons, List.not_mem_nil, or_false] at hz
        rcases hz with rfl | rfl | rfl
        · exact hB.e _ (by simp)
        · exact hB.e _ (by simp)
        · exact hb, hB.r, by intro z hz; simp only [List.mem_cons, List.not_mem_nil, or_false] at hz; rcases hz with rfl | rfl | rfl <;> simp only [] <;> omega, Nat.le_refl _, hB.g.size⟩
    clear hB hb hK
    go_wp2_with fail
    refine wp_region_flow2 (itemsG (Okb w0 [(w0.heap.size, p), ((w0.heap.size + 1), q), (B1, cube)]) [.any, .any, .any, .any, .any, .any, .ptr, .any, .any, .any, .any, .any, .any, .any, .val cube.v, .val (Fe.sqF cube).v, .val q.v, .val (Fe.mulF (Fe.sqF cube) q).v, .any, .any, .any, .any, .any, .any, .any, .any, .any, .any, .any, .any, .any]) (fun j => if j = 5 then 6 else 0) (Stored (Okb w0 [(w0.heap.size, p), ((w0.heap.size + 1), q), (B1, cube)]) (Fe.mulF (Fe.sqF cube) q)) (EnvB w0 w1.heap.size [(w0.heap.size, p), ((w0.heap.size + 1), q), (B1, cube)] [(w0.heap.size + 1 + 1)]) (Rel5 (Fe.mulF (Fe.sqF cube) q)) (by kernel_rfl) (by kernel_rfl) (by kernel_rfl) (hB1.grown (gb_drewn _)) (fun d u w1 w2 hR h => items_stab _ _ _ d u w1 w2 hR h) (fun j u w1 w2 hR h => stored_stab _ _ j u w1 w2 hR h) (by kernel_rfl) ?_ ?_
    · refine ⟨flow2_value rfl rfl fun a w h => ?_, ?_⟩
      · have e5 : a.tmps.getD 5 undef = .pointer (some ⟨B1, 0, none⟩) := h.rest 5 (by kernel_rfl)
        have hb := h.base.e (B1, cube) (by simp)
        have c0 : w.cell? ⟨B1, 0, none⟩ = some (.int .u64 cube.x0) := hb.cell (i := 0) rfl
        have c1 : w.cell? ⟨B1, 1, none⟩ = some (.int .u64 cube.x1) := hb.cell (i := 1) rfl
        have c2 : w.cell? ⟨B1, 2, none⟩ = some (.int .u64 cube.x2) := hb.cell (i := 2) rfl
        have c3 : w.cell? ⟨B1, 3, none⟩ = some (.int .u64 cube.x3) := hb.cell (i := 3) rfl
        have c4 : w.cell? ⟨B1, 4, none⟩ = some (.int .u64 cube.x4) := hb.cell (i := 4) rfl
        refine ⟨.agg #[.int .u64 cube.x0, .int .u64 cube.x1, .int .u64 cube.x2, .int .u64 cube.x3, .int .u64 cube.x4], w, ?_, h.base, rel5_refl _ _, rfl⟩
        clear h hb
        simp only [execOp, Act.eval, e5]
        go_simp
      refine ⟨flow2_call rfl rfl fun a w h => ?_, ?_⟩
      · have e14 : a.tmps.getD 14 undef = cube.v := h.dep 14 (by kernel_rfl)
        have e14x : a.tmps[14]?.getD undef = cube.v := by simpa using e14
        have hb := h.base
        refine ⟨38, #[cube.v], ?_, ?_⟩
        · clear h hb e14
          go_simp
        · refine (sq_fe cube w okcube).mono ?_
          intro e w1 hp
          obtain ⟨rfl, hg⟩ := feOut_is hp
          exact ⟨_, rfl, hb.grown hg, Or.inl hg, rfl⟩
      refine ⟨flow2_value rfl rfl fun a w h => ?_, ?_⟩
      · have e3 : a.tmps.getD 3 undef = .pointer (some ⟨(w0.heap.size + 1), 0, none⟩) := h.rest 3 (by kernel_rfl)
        have hb := h.base.e ((w0.heap.size + 1), q) (by simp)
        have c0 : w.cell? ⟨(w0.heap.size + 1), 0, none⟩ = some (.int .u64 q.x0) := hb.cell (i := 0) rfl
        have c1 : w.cell? ⟨(w0.heap.size + 1), 1, none⟩ = some (.int .u64 q.x1) := hb.cell (i := 1) rfl
        have c2 : w.cell? ⟨(w0.heap.size + 1), 2, none⟩ = some (.int .u64 q.x2) := hb.cell (i := 2) rfl
        have c3 : w.cell? ⟨(w0.heap.size + 1), 3, none⟩ = some (.int .u64 q.x3) := hb.cell (i := 3) rfl
        have c4 : w.cell? ⟨(w0.heap.size + 1), 4, none⟩ = some (.int .u64 q.x4) := hb.cell (i := 4) rfl
        refine ⟨.agg #[.int .u64 q.x0, .int .u64 q.x1, .int .u64 q.x2, .int .u64 q.x3, .int .u64 q.x4], w, ?_, h.base, rel5_refl _ _, rfl⟩
        clear h hb
        simp only [execOp, Act.eval, e3]
        go_simp
      refine ⟨flow2_call rfl rfl fun a w h => ?_, ?_⟩
      · have e15 : a.tmps.getD 15 undef = (Fe.sqF cube).v := h.dep 15 (by kernel_rfl)
        have e16 : a.tmps.getD 16 undef = q.v := h.dep 16 (by kernel_rfl)
        have e15x : a.tmps[15]?.getD undef = (Fe.sqF cube).v := by simpa using e15
        have e16x : a.tmps[16]?.getD undef = q.v := by simpa using e16
        have hb := h.base
        refine ⟨35, #[(Fe.sqF cube).v, q.v], ?_, ?_⟩
        · clear h hb e15 e16
          go_simp
        · refine (mul_fe (Fe.sqF cube) q w (Fe.sq_right _).ok okq).mono ?_
          intro e w1 hp
          obtain ⟨rfl, hg⟩ := feOut_is hp
          exact ⟨_, rfl, hb.grown hg, Or.inl hg, rfl⟩
      refine ⟨flow2_value rfl rfl fun a w h => ?_, ?_⟩
      · refine ⟨.pointer (some ⟨w.heap.size, 0, none⟩), w.alloc (.cells #[.int .u64 0, .int .u64 0, .int .u64 0, .int .u64 0, .int .u64 0] 27), ?_, h.base.grown (World.grownBy_alloc _ _ _), Or.inl (World.grownBy_alloc _ _ _), ⟨w.heap.size, rfl, ⟨_, _, _, _, _, Blk.new w [.int .u64 0, .int .u64 0, .int .u64 0, .int .u64 0, .int .u64 0] _⟩, h.base.fresh⟩⟩
        clear h
        go_simp
      refine ⟨flow2_skip rfl rfl fun a w h => ?_, ?_⟩
      · obtain ⟨Bn, ep, hroom, hK⟩ : ∃ Bn, a.tmps.getD 6 undef = .pointer (some ⟨Bn, 0, none⟩) ∧ Room5 w Bn 27 ∧ (Okb w0 [(w0.heap.size, p), ((w0.heap.size + 1), q), (B1, cube)]) Bn := h.dep 6 (by kernel_rfl)
        have e17 : a.tmps.getD 17 undef = .agg #[.int .u64 (Fe.mulF (Fe.sqF cube) q).x0, .int .u64 (Fe.mulF (Fe.sqF cube) q).x1, .int .u64 (Fe.mulF (Fe.sqF cube) q).x2, .int .u64 (Fe.mulF (Fe.sqF cube) q).x3, .int .u64 (Fe.mulF (Fe.sqF cube) q).x4] := h.dep 17 (by kernel_rfl)
        refine ⟨set5W w Bn (Fe.mulF (Fe.sqF cube) q), ?_, h.base.set hK _, Or.inr ⟨Bn, rfl, hroom⟩, ⟨Bn, ep, hK, set5W_same hroom⟩⟩
        obtain ⟨u0, u1, u2, u3, u4, hR⟩ := hroom
        have c0r := hR.cell (i := 0) rfl; have f0r := hR.free 0
        have c1r := hR.cell (i := 1) rfl; have f1r := hR.free 1
        have c2r := hR.cell (i := 2) rfl; have f2r := hR.free 2
        have c3r := hR.cell (i := 3) rfl; have f3r := hR.free 3
        have c4r := hR.cell (i := 4) rfl; have f4r := hR.free 4
        clear h hK hR
        unfold set5W
        simp only [execOp, Act.eval, ep, e17]
        go_simp
      trivial
    · intro a' w2 hB hsz hdf hrest hslots hmems
      obtain ⟨B2, hptr, hK, hb⟩ := hmems 5 _ rfl rfl
      obtain rfl := frame_is (a := a') (vs := [.agg #[.int .u64 p.x0, .int .u64 p.x1, .int .u64 p.x2, .int .u64 p.x3, .int .u64 p.x4], .agg #[.int .u64 q.x0, .int .u64 q.x1, .int .u64 q.x2, .int .u64 q.x3, .int .u64 q.x4], .pointer (some ⟨w0.heap.size, 0, none⟩), .pointer (some ⟨w0.heap.size + 1, 0, none⟩), .pointer (some ⟨w0.heap.size + 1 + 1, 0, none⟩), .pointer (some ⟨B1, 0, none⟩), .pointer (some ⟨B2, 0, none⟩), undef, undef, undef, q.v, (Fe.sqF q).v, q.v, (Fe.mulF (Fe.sqF q) q).v, cube.v, (Fe.sqF cube).v, q.v, (Fe.mulF (Fe.sqF cube) q).v, undef, undef, undef, undef, undef, undef, undef, undef, undef, undef, undef, undef, undef]) hsz ⟨hrest 0 (by kernel_rfl), hrest 1 (by kernel_rfl), hrest 2 (by kernel_rfl), hrest 3 (by kernel_rfl), hrest 4 (by kernel_rfl), hrest 5 (by kernel_rfl), hptr, hrest 7 (by kernel_rfl), hrest 8 (by kernel_rfl), hrest 9 (by kernel_rfl), hrest 10 (by kernel_rfl), hrest 11 (by kernel_rfl), hrest 12 (by kernel_rfl), hrest 13 (by kernel_rfl), hslots 14 (by kernel_rfl), hslots 15 (by kernel_rfl), hslots 16 (by kernel_rfl), hslots 17 (by kernel_rfl), hrest 18 (by kernel_rfl), hrest 19 (by kernel_rfl), hrest 20 (by kernel_rfl), hrest 21 (by kernel_rfl), hrest 22 (by kernel_rfl), hrest 23 (by kernel_rfl), hrest 24 (by kernel_rfl), hrest 25 (by kernel_rfl), hrest 26 (by kernel_rfl), hrest 27 (by kernel_rfl), hrest 28 (by kernel_rfl), hrest 29 (by kernel_rfl), hrest 30 (by kernel_rfl), trivial⟩ hdf
      clear hptr hsz hdf hrest hslots hmems hB1
      obtain ⟨sev, hf⟩ : ∃ f, f = Fe.mulF (Fe.sqF cube) q := ⟨_, rfl⟩
      have oksev : sev.Ok := by rw [hf]; exact (Fe.mul_right _ _).ok
      rw [← hf] at hb
      have Hsev := Lib.hid hf; clear hf
      have hAp := hB.e (w0.heap.size, p) (by simp)
      have c0 := hAp.cell (i := 0) rfl
      have c1 := hAp.cell (i := 1) rfl
      have c2 := hAp.cell (i := 2) rfl
      have c3 := hAp.cell (i := 3) rfl
      have c4 := hAp.cell (i := 4) rfl
      have d0 := hb.cell (i := 0) rfl
      have d1 := hb.cell (i := 1) rfl
      have d2 := hb.cell (i := 2) rfl
      have d3 := hb.cell (i := 3) rfl
      have d4 := hb.cell (i := 4) rfl
      go_wp2_with fail
      refine (mul_fe p sev _ okp oksev).mono ?_
      rintro e v3 ⟨base, hbase, rfl, hg3⟩
      have okbase : base.Ok := by rw [hbase.out]; exact (Fe.mul_right _ _).ok
      have hE3 := (hB.grown hg3).grown (World.grownBy_alloc v3 (.cells #[.int .u64 base.x0, .int .u64 base.x1, .int .u64 base.x2, .int .u64 base.x3, .int .u64 base.x4] 27) none)
      have hb7 : Blk (v3.alloc (.cells #[.int .u64 base.x0, .int .u64 base.x1, .int .u64 base.x2, .int .u64 base.x3, .int .u64 base.x4] 27)) v3.heap.size 27 (feL base) := Blk.new v3 (feL base) _
      clear hAp hB hb hK hg3 c0 c1 c2 c3 c4 d0 d1 d2 d3 d4
      go_wp2_with fail
      refine (manyOnes_any base _ okbase).mono ?_
      rintro e v4 ⟨C, on, hon, rfl, hg4, hC, hP⟩
      have okon : on.Ok := by rw [hon.out]; exact stepF_ok _ _ _
      have hb8 := hb7.grown hg4 (by simp)
      have c0 := hb8.cell (i := 0) rfl
      have c1 := hb8.cell (i := 1) rfl
      have c2 := hb8.cell (i := 2) rfl
      have c3 := hb8.cell (i := 3) rfl
      have c4 := hb8.cell (i := 4) rfl
      go_wp2_with fail
      refine (step_any C 2 on base _ (by decide) okon okbase hP).mono ?_
      rintro e v5 ⟨pw, hpw, rfl, hg5, hP5⟩
      have okpw : pw.Ok := by rw [hpw.out]; exact stepF_ok _ _ _
      have hE5 := (hE3.grown (gb_then hg4 hg5 hC)).grown (World.grownBy_alloc v5 (.cells #[.int .u64 pw.x0, .int .u64 pw.x1, .int .u64 pw.x2, .int .u64 pw.x3, .int .u64 pw.x4] 27) none)
      have hsz5 := (hE3.grown (gb_then hg4 hg5 hC)).l
      have hb9 : Blk (v5.alloc (.cells #[.int .u64 pw.x0, .int .u64 pw.x1, .int .u64 pw.x2, .int .u64 pw.x3, .int .u64 pw.x4] 27)) v5.heap.size 27 (feL pw) := Blk.new v5 (feL pw) _
      have hlt1 := (hE5.e (B1, cube) (by simp)).lt
      have hB6 : EnvB w0 (v5.heap.size + 1) [(w0.heap.size, p), (B1, cube), (v5.heap.size, pw)] [(w0.heap.size + 1 + 1)] (v5.alloc (.cells #[.int .u64 pw.x0, .int .u64 pw.x1, .int .u64 pw.x2, .int .u64 pw.x3, .int .u64 pw.x4] 27)) :=
        ⟨hE5.g, by
          intro z hz
          simp only [List.mem_cons, List.not_mem_nil, or_false] at hz
          rcases hz with rfl | rfl | rfl
          · exact hE5.e _ (by simp)
          · exact hE5.e _ (by simp)
          · exact hb9, hE5.r, by
          intro z hz
          have h1 := hE5.n (w0.heap.size, p) (by simp)
          have h2 := hE5.n (B1, cube) (by simp)
          simp only [List.mem_cons, List.not_mem_nil, or_false] at hz
          rcases hz with rfl | rfl | rfl <;> simp only [] at * <;> omega, by simp, by have := hE5.g.size; simp at this; have := hE5.m; omega⟩
      clear hE3 hE5 hb7 hb8 hb9 hg4 hg5 hP hP5 c0 c1 c2 c3 c4
      go_wp2_with fail
      refine wp_region_flow2 (itemsG (Okb w0 [(w0.heap.size, p), (B1, cube), (v5.heap.size, pw)]) [.any, .any, .any, .any, .any, .any, .any, .any, .any, .any, .any, .any, .any, .any, .any, .any, .any, .any, .any, .any, .any, .any, .any, .any, .any, .any, .val p.v, .val cube.v, .val (Fe.mulF p cube).v, .val pw.v, .val (Fe.mulF (Fe.mulF p cube) pw).v]) (fun j => if j = 5 then 4 else 0) (Stored (Okb w0 [(w0.heap.size, p), (B1, cube), (v5.heap.size, pw)]) (Fe.mulF (Fe.mulF p cube) pw)) (EnvB w0 (v5.heap.size + 1) [(w0.heap.size, p), (B1, cube), (v5.heap.size, pw)] [(w0.heap.size + 1 + 1)]) (Rel5 (Fe.mulF (Fe.mulF p cube) pw)) (by kernel_rfl) (by kernel_rfl) (by kernel_rfl) (hB6.grown (gb_drewn _)) (fun d u w1 w2 hR h => items_stab _ _ _ d u w1 w2 hR h) (fun j u w1 w2 hR h => stored_stab _ _ j u w1 w2 hR h) (by kernel_rfl) ?_ ?_
      · refine ⟨flow2_value rfl rfl fun a w h => ?_, ?_⟩
        · have e2 : a.tmps.getD 2 undef = .pointer (some ⟨w0.heap.size, 0, none⟩) := h.rest 2 (by kernel_rfl)
          have hb := h.base.e (w0.heap.size, p) (by simp)
          have c0 : w.cell? ⟨w0.heap.size, 0, none⟩ = some (.int .u64 p.x0) := hb.cell (i := 0) rfl
          have c1 : w.cell? ⟨w0.heap.size, 1, none⟩ = some (.int .u64 p.x1) := hb.cell (i := 1) rfl
          have c2 : w.cell? ⟨w0.heap.size, 2, none⟩ = some (.int .u64 p.x2) := hb.cell (i := 2) rfl
          have c3 : w.cell? ⟨w0.heap.size, 3, none⟩ = some (.int .u64 p.x3) := hb.cell (i := 3) rfl
          have c4 : w.cell? ⟨w0.heap.size, 4, none⟩ = some (.int .u64 p.x4) := hb.cell (i := 4) rfl
          refine ⟨.agg #[.int .u64 p.x0, .int .u64 p.x1, .int .u64 p.x2, .int .u64 p.x3, .int .u64 p.x4], w, ?_, h.base, rel5_refl _ _, rfl⟩
          clear h hb
          simp only [execOp, Act.eval, e2]
          go_simp
        refine ⟨flow2_value rfl rfl fun a w h => ?_, ?_⟩
        · have e5 : a.tmps.getD 5 undef = .pointer (some ⟨B1, 0, none⟩) := h.rest 5 (by kernel_rfl)
          have hb := h.base.e (B1, cube) (by simp)
          have c0 : w.cell? ⟨B1, 0, none⟩ = some (.int .u64 cube.x0) := hb.cell (i := 0) rfl
          have c1 : w.cell? ⟨B1, 1, none⟩ = some (.int .u64 cube.x1) := hb.cell (i := 1) rfl
          have c2 : w.cell? ⟨B1, 2, none⟩ = some (.int .u64 cube.x2) := hb.cell (i := 2) rfl
          have c3 : w.cell? ⟨B1, 3, none⟩ = some (.int .u64 cube.x3) := hb.cell (i := 3) rfl
          have c4 : w.cell? ⟨B1, 4, none⟩ = some (.int .u64 cube.x4) := hb.cell (i := 4) rfl
          refine ⟨.agg #[.int .u64 cube.x0, .int .u64 cube.x1, .int .u64 cube.x2, .int .u64 cube.x3, .int .u64 cube.x4], w, ?_, h.base, rel5_refl _ _, rfl⟩
          clear h hb
          simp only [execOp, Act.eval, e5]
          go_simp
        refine ⟨flow2_call rfl rfl fun a w h => ?_, ?_⟩
        · have e26 : a.tmps.getD 26 undef = p.v := h.dep 26 (by kernel_rfl)
          have e27 : a.tmps.getD 27 undef = cube.v := h.dep 27 (by kernel_rfl)
          have e26x : a.tmps[26]?.getD undef = p.v := by simpa using e26
          have e27x : a.tmps[27]?.getD undef = cube.v := by simpa using e27
          have hb := h.base
          refine ⟨35, #[p.v, cube.v], ?_, ?_⟩
          · clear h hb e26 e27
            go_simp
          · refine (mul_fe p cube w okp okcube).mono ?_
            intro e w1 hp
            obtain ⟨rfl, hg⟩ := feOut_is hp
            exact ⟨_, rfl, hb.grown hg, Or.inl hg, rfl⟩
        refine ⟨flow2_value rfl rfl fun a w h => ?_, ?_⟩
        · have e9 : a.tmps.getD 9 undef = .pointer (some ⟨v5.heap.size, 0, none⟩) := h.rest 9 (by kernel_rfl)
          have hb := h.base.e (v5.heap.size, pw) (by simp)
          have c0 : w.cell? ⟨v5.heap.size, 0, none⟩ = some (.int .u64 pw.x0) := hb.cell (i := 0) rfl
          have c1 : w.cell? ⟨v5.heap.size, 1, none⟩ = some (.int .u64 pw.x1) := hb.cell (i := 1) rfl
          have c2 : w.cell? ⟨v5.heap.size, 2, none⟩ = some (.int .u64 pw.x2) := hb.cell (i := 2) rfl
          have c3 : w.cell? ⟨v5.heap.size, 3, none⟩ = some (.int .u64 pw.x3) := hb.cell (i := 3) rfl
          have c4 : w.cell? ⟨v5.heap.size, 4, none⟩ = some (.int .u64 pw.x4) := hb.cell (i := 4) rfl
          refine ⟨.agg #[.int .u64 pw.x0, .int .u64 pw.x1, .int .u64 pw.x2, .int .u64 pw.x3, .int .u64 pw.x4], w, ?_, h.base, rel5_refl _ _, rfl⟩
          clear h hb
          simp only [execOp, Act.eval, e9]
          go_simp
        refine ⟨flow2_call rfl rfl fun a w h => ?_, ?_⟩
        · have e28 : a.tmps.getD 28 undef = (Fe.mulF p cube).v := h.dep 28 (by kernel_rfl)
          have e29 : a.tmps.getD 29 undef = pw.v := h.dep 29 (by kernel_rfl)
          have e28x : a.tmps[28]?.getD undef = (Fe.mulF p cube).v := by simpa using e28
          have e29x : a.tmps[29]?.getD undef = pw.v := by simpa using e29
          have hb := h.base
          refine ⟨35, #[(Fe.mulF p cube).v, pw.v], ?_, ?_⟩
          · clear h hb e28 e29
            go_simp
          · refine (mul_fe (Fe.mulF p cube) pw w (Fe.mul_right _ _).ok okpw).mono ?_
            intro e w1 hp
            obtain ⟨rfl, hg⟩ := feOut_is hp
            exact ⟨_, rfl, hb.grown hg, Or.inl hg, rfl⟩
        refine ⟨flow2_skip rfl rfl fun a w h => ?_, ?_⟩
        · obtain ⟨Bn, hBn⟩ : ∃ Bn, Bn = (w0.heap.size + 1 + 1) := ⟨_, rfl⟩
          have ep : a.tmps.getD 4 undef = .pointer (some ⟨Bn, 0, none⟩) := by rw [hBn]; exact h.rest 4 (by kernel_rfl)
          have hroom : Room5 w Bn 27 := by rw [hBn]; exact h.base.r _ (by simp)
          have hK : (Okb w0 [(w0.heap.size, p), (B1, cube), (v5.heap.size, pw)]) Bn := by rw [hBn]; exact ⟨by omega, by intro z hz; simp only [List.mem_cons, List.not_mem_nil, or_false] at hz; rcases hz with rfl | rfl | rfl <;> simp only [] <;> omega⟩
          clear hBn
          have e30 : a.tmps.getD 30 undef = .agg #[.int .u64 (Fe.mulF (Fe.mulF p cube) pw).x0, .int .u64 (Fe.mulF (Fe.mulF p cube) pw).x1, .int .u64 (Fe.mulF (Fe.mulF p cube) pw).x2, .int .u64 (Fe.mulF (Fe.mulF p cube) pw).x3, .int .u64 (Fe.mulF (Fe.mulF p cube) pw).x4] := h.dep 30 (by kernel_rfl)
          refine ⟨set5W w Bn (Fe.mulF (Fe.mulF p cube) pw), ?_, h.base.set hK _, Or.inr ⟨Bn, rfl, hroom⟩, ⟨Bn, ep, hK, set5W_same hroom⟩⟩
          obtain ⟨u0, u1, u2, u3, u4, hR⟩ := hroom
          have c0r := hR.cell (i := 0) rfl; have f0r := hR.free 0
          have c1r := hR.cell (i := 1) rfl; have f1r := hR.free 1
          have c2r := hR.cell (i := 2) rfl; have f2r := hR.free 2
          have c3r := hR.cell (i := 3) rfl; have f3r := hR.free 3
          have c4r := hR.cell (i := 4) rfl; have f4r := hR.free 4
          clear h hK hR
          unfold set5W
          simp only [execOp, Act.eval, ep, e30]
          go_simp
        trivial
      · intro a' w6 hB hsz hdf hrest hslots hmems
        obtain ⟨B6, hptr, hK, hb⟩ := hmems 5 _ rfl rfl
        have hR4 : a'.tmps.getD 4 undef = .pointer (some ⟨w0.heap.size + 1 + 1, 0, none⟩) := hrest 4 (by kernel_rfl)
        have hptr2 : a'.tmps.getD 4 undef = .pointer (some ⟨B6, 0, none⟩) := hptr
        rw [hR4] at hptr2
        obtain rfl : w0.heap.size + 1 + 1 = B6 := by simpa using hptr2
        obtain rfl := frame_is (a := a') (vs := [.agg #[.int .u64 p.x0, .int .u64 p.x1, .int .u64 p.x2, .int .u64 p.x3, .int .u64 p.x4], .agg #[.int .u64 q.x0, .int .u64 q.x1, .int .u64 q.x2, .int .u64 q.x3, .int .u64 q.x4], .pointer (some ⟨w0.heap.size, 0, none⟩), .pointer (some ⟨w0.heap.size + 1, 0, none⟩), .pointer (some ⟨w0.heap.size + 1 + 1, 0, none⟩), .pointer (some ⟨B1, 0, none⟩), .pointer (some ⟨B2, 0, none⟩), .pointer (some ⟨v3.heap.size, 0, none⟩), .func (.func 122) #[] #[.pointer (some ⟨C, 0, none⟩)], .pointer (some ⟨v5.heap.size, 0, none⟩), q.v, (Fe.sqF q).v, q.v, (Fe.mulF (Fe.sqF q) q).v, cube.v, (Fe.sqF cube).v, q.v, (Fe.mulF (Fe.sqF cube) q).v, .agg #[.int .u64 p.x0, .int .u64 p.x1, .int .u64 p.x2, .int .u64 p.x3, .int .u64 p.x4], .agg #[.int .u64 sev.x0, .int .u64 sev.x1, .int .u64 sev.x2, .int .u64 sev.x3, .int .u64 sev.x4], .agg #[.int .u64 base.x0, .int .u64 base.x1, .int .u64 base.x2, .int .u64 base.x3, .int .u64 base.x4], .agg #[.int .u64 base.x0, .int .u64 base.x1, .int .u64 base.x2, .int .u64 base.x3, .int .u64 base.x4], .func (.func 122) #[] #[.pointer (some ⟨C, 0, none⟩)], .func (.func 122) #[] #[.pointer (some ⟨C, 0, none⟩)], .agg #[.int .u64 base.x0, .int .u64 base.x1, .int .u64 base.x2, .int .u64 base.x3, .int .u64 base.x4], .agg #[.int .u64 pw.x0, .int .u64 pw.x1, .int .u64 pw.x2, .int .u64 pw.x3, .int .u64 pw.x4], p.v, cube.v, (Fe.mulF p cube).v, pw.v, (Fe.mulF (Fe.mulF p cube) pw).v]) hsz ⟨hrest 0 (by kernel_rfl), hrest 1 (by kernel_rfl), hrest 2 (by kernel_rfl), hrest 3 (by kernel_rfl), hrest 4 (by kernel_rfl), hrest 5 (by kernel_rfl), hrest 6 (by kernel_rfl), hrest 7 (by kernel_rfl), hrest 8 (by kernel_rfl), hrest 9 (by kernel_rfl), hrest 10 (by kernel_rfl), hrest 11 (by kernel_rfl), hrest 12 (by kernel_rfl), hrest 13 (by kernel_rfl), hrest 14 (by kernel_rfl), hrest 15 (by kernel_rfl), hrest 16 (by kernel_rfl), hrest 17 (by kernel_rfl), hrest 18 (by kernel_rfl), hrest 19 (by kernel_rfl), hrest 20 (by kernel_rfl), hrest 21 (by kernel_rfl), hrest 22 (by kernel_rfl), hrest 23 (by kernel_rfl), hrest 24 (by kernel_rfl), hrest 25 (by kernel_rfl), hslots 26 (by kernel_rfl), hslots 27 (by kernel_rfl), hslots 28 (by kernel_rfl), hslots 29 (by kernel_rfl), hslots 30 (by kernel_rfl), trivial⟩ hdf
        have G6 := hB.g
        clear hptr hptr2 hsz hdf hrest hslots hmems hB6 hR4 hB
        obtain ⟨g, hf⟩ : ∃ f, f = Fe.mulF (Fe.mulF p cube) pw := ⟨_, rfl⟩
        rw [← hf] at hb
        have Hg := Lib.hid hf; clear hf
        have c0 := hb.cell (i := 0) rfl
        have c1 := hb.cell (i := 1) rfl
        have c2 := hb.cell (i := 2) rfl
        have c3 := hb.cell (i := 3) rfl
        have c4 := hb.cell (i := 4) rfl
        go_wp2_with fail
        refine bodyPost_ret (v := .agg #[.int .u64 g.x0, .int .u64 g.x1, .int .u64 g.x2, .int .u64 g.x3, .int .u64 g.x4]) ?_ rfl ⟨g, Lib.hid ?_, rfl, G6⟩
        · simp [results, Tryz.results47, go_sem, c0, c1, c2, c3, c4]
        · rw [Hg.out, hpw.out, hon.out, hbase.out, Hsev.out, Hcube.out]; rfl
end Go.Proofs.YtcmnecnbcohaeaaGreatDoor

/- field: Root. -/
namespace Go.Proofs.YtcmnecnbcohaeaaGreatDoor
open Go.RowKit
/-- an element and a truth come back -/
def RootOut (F : Fe) (b : Bool) (w : World) (e : Ending) (w' : World) : Prop :=
  ∃ r : Fe, Hid (r = F) ∧ e = .returned (.tuple #[.agg #[.int .u64 r.x0, .int .u64 r.x1, .int .u64 r.x2, .int .u64 r.x3, .int .u64 r.x4], .bool b]) ∧ w.grownBy w' none
theorem rootI_ok : rootI.Ok := by constructor <;> decide
theorem fits_val (p q s : Fe) (b : Bool) (w : World) (okp : p.Ok) (okq : q.Ok) (oks : s.Ok) (hb : decide (Fe.m (Fe.mulF (Fe.sqF p) s) = Fe.m q) = b) :
    Calls Tryz.prog 48 #[.agg #[.int .u64 p.x0, .int .u64 p.x1, .int .u64 p.x2, .int .u64 p.x3, .int .u64 p.x4], .agg #[.int .u64 q.x0, .int .u64 q.x1, .int .u64 q.x2, .int .u64 q.x3, .int .u64 q.x4], .agg #[.int .u64 s.x0, .int .u64 s.x1, .int .u64 s.x2, .int .u64 s.x3, .int .u64 s.x4]] w fun e w' => e = .returned (.bool b) ∧ w.grownBy w' none := by
  rw [← hb]; exact fits_any p q s w okp okq oks
theorem odd_val (p : Fe) (b : Bool) (w : World) (okp : p.Ok) (hb : decide (Fe.m p % 2 = 1) = b) : Calls Tryz.prog 43 #[.agg #[.int .u64 p.x0, .int .u64 p.x1, .int .u64 p.x2, .int .u64 p.x3, .int .u64 p.x4]] w fun e w' => e = .returned (.bool b) ∧ w.grownBy w' none := by
  rw [← hb]; exact odd_any p w okp
theorem root_env (p q : Fe) (w0 : World) : EnvB w0 (w0.heap.size + 3) [(w0.heap.size, p), (w0.heap.size + 1, q)] [w0.heap.size + 1 + 1] (((w0.alloc (.cells #[.int .u64 p.x0, .int .u64 p.x1, .int .u64 p.x2, .int .u64 p.x3, .int .u64 p.x4] 27)).alloc (.cells #[.int .u64 q.x0, .int .u64 q.x1, .int .u64 q.x2, .int .u64 q.x3, .int .u64 q.x4] 27)).alloc (.cells #[.int .u64 0, .int .u64 0, .int .u64 0, .int .u64 0, .int .u64 0] 27)) :=
  ⟨gb_alloc (gb_alloc (gb_alloc (gb_refl _ _) _) _) _, by
    intro z hz
    simp only [List.mem_cons, List.not_mem_nil, or_false] at hz
    rcases hz with rfl | rfl
    · exact ((Blk.new w0 (feL _) _).alloc _).alloc _
    · exact (Blk.newAt (w0.alloc _) (feL _) _ (by simp)).alloc _, by
    intro B hB
    simp only [List.mem_cons, List.not_mem_nil, or_false] at hB
    subst hB
    exact ⟨_, _, _, _, _, Blk.newAt _ [.int .u64 0, .int .u64 0, .int .u64 0, .int .u64 0, .int .u64 0] _ (by simp)⟩, by intro z hz; simp only [List.mem_cons, List.not_mem_nil, or_false] at hz; rcases hz with rfl | rfl <;> simp only [] <;> omega, by simp, by omega⟩
set_option maxRecDepth 100000 in
set_option maxHeartbeats 1600000 in
theorem root_te (p q : Fe) (w0 : World) (hT : FTab w0) (okp : p.Ok) (okq : q.Ok) (h1 : decide (Fe.m (Fe.mulF (Fe.sqF (guessF p q)) q) = Fe.m p) = true) (h3 : decide (Fe.m (guessF p q) % 2 = 1) = false) :
    Calls Tryz.prog 20 #[.agg #[.int .u64 p.x0, .int .u64 p.x1, .int .u64 p.x2, .int .u64 p.x3, .int .u64 p.x4], .agg #[.int .u64 q.x0, .int .u64 q.x1, .int .u64 q.x2, .int .u64 q.x3, .int .u64 q.x4]] w0 (RootOut (guessF p q) true w0) := by
  have HT := Lib.hid hT; clear hT
  have H1 := Lib.hid h1; clear h1
  have H3 := Lib.hid h3; clear h3
  have hE0 : EnvB w0 (w0.heap.size + 3) [(w0.heap.size, p), (w0.heap.size + 1, q)] [w0.heap.size + 1 + 1] (((w0.alloc (.cells #[.int .u64 p.x0, .int .u64 p.x1, .int .u64 p.x2, .int .u64 p.x3, .int .u64 p.x4] 27)).alloc (.cells #[.int .u64 q.x0, .int .u64 q.x1, .int .u64 q.x2, .int .u64 q.x3, .int .u64 q.x4] 27)).alloc (.cells #[.int .u64 0, .int .u64 0, .int .u64 0, .int .u64 0, .int .u64 0] 27)) := root_env p q w0
  go_enter Tryz.func20, Tryz.ntmps20
  go_wp2_with fail
  refine (guess_any p q _ okp okq).mono ?_
  rintro e v1 ⟨g, hg, rfl, hg1⟩
  have okg : g.Ok := by rw [hg.out]; exact (Fe.mul_right _ _).ok
  have hE1 := (hE0.grown hg1).grown (World.grownBy_alloc v1 (.cells #[.int .u64 g.x0, .int .u64 g.x1, .int .u64 g.x2, .int .u64 g.x3, .int .u64 g.x4] 27) none)
  have hl1 := (hE0.grown hg1).l
  have hG1 : Blk (v1.alloc (.cells #[.int .u64 g.x0, .int .u64 g.x1, .int .u64 g.x2, .int .u64 g.x3, .int .u64 g.x4] 27)) v1.heap.size 27 (feL g) := Blk.new v1 (feL g) _
  clear hE0 hg1
  have hAp := hE1.e (w0.heap.size, p) (by simp)
  have hAq := hE1.e (w0.heap.size + 1, q) (by simp)
  have c0 := hAp.cell (i := 0) rfl
  have c1 := hAp.cell (i := 1) rfl
  have c2 := hAp.cell (i := 2) rfl
  have c3 := hAp.cell (i := 3) rfl
  have c4 := hAp.cell (i := 4) rfl
  have d0 := hAq.cell (i := 0) rfl
  have d1 := hAq.cell (i := 1) rfl
  have d2 := hAq.cell (i := 2) rfl
  have d3 := hAq.cell (i := 3) rfl
  have d4 := hAq.cell (i := 4) rfl
  go_wp2_with fail
  refine (fits_val g p q true _ okg okp okq (by rw [hg.out]; exact H1.out)).mono ?_
  rintro e v2 ⟨rfl, hg2⟩
  have hE2 := hE1.grown hg2
  have hG2 := hG1.grown hg2 (by simp)
  clear hE1 hG1 hg2 hAp hAq c0 c1 c2 c3 c4 d0 d1 d2 d3 d4
  have hAp := hE2.e (w0.heap.size, p) (by simp)
  have hAq := hE2.e (w0.heap.size + 1, q) (by simp)
  have c0 := hAp.cell (i := 0) rfl
  have c1 := hAp.cell (i := 1) rfl
  have c2 := hAp.cell (i := 2) rfl
  have c3 := hAp.cell (i := 3) rfl
  have c4 := hAp.cell (i := 4) rfl
  have d0 := hAq.cell (i := 0) rfl
  have d1 := hAq.cell (i := 1) rfl
  have d2 := hAq.cell (i := 2) rfl
  have d3 := hAq.cell (i := 3) rfl
  have d4 := hAq.cell (i := 4) rfl
  have x0 := hG2.cell (i := 0) rfl
  have x1 := hG2.cell (i := 1) rfl
  have x2 := hG2.cell (i := 2) rfl
  have x3 := hG2.cell (i := 3) rfl
  have x4 := hG2.cell (i := 4) rfl
  have y0 := hG2.free 0
  have y1 := hG2.free 1
  have y2 := hG2.free 2
  have y3 := hG2.free 3
  have y4 := hG2.free 4
  go_wp2_with fail
  refine (fits_val g p q true _ okg okp okq (by rw [hg.out]; exact H1.out)).mono ?_
  rintro e v5 ⟨rfl, hg5⟩
  have hE5 := hE2.grown hg5
  have hG5 := hG2.grown hg5 (by simp)
  clear hE2 hG2 hg5 hAp hAq c0 c1 c2 c3 c4 d0 d1 d2 d3 d4 x0 x1 x2 x3 x4 y0 y1 y2 y3 y4
  have x0 := hG5.cell (i := 0) rfl
  have x1 := hG5.cell (i := 1) rfl
  have x2 := hG5.cell (i := 2) rfl
  have x3 := hG5.cell (i := 3) rfl
  have x4 := hG5.cell (i := 4) rfl
  have y0 := hG5.free 0
  have y1 := hG5.free 1
  have y2 := hG5.free 2
  have y3 := hG5.free 3
  have y4 := hG5.free 4
  go_wp2_with fail
  refine (odd_val g false _ okg (by rw [hg.out]; exact H3.out)).mono ?_
  rintro e v6 ⟨rfl, hg6⟩
  have hE6 := hE5.grown hg6
  have hG6 := hG5.grown hg6 (by simp)
  clear hE5 hG5 hg6 x0 x1 x2 x3 x4 y0 y1 y2 y3 y4
  have x0 := hG6.cell (i := 0) rfl
  have x1 := hG6.cell (i := 1) rfl
  have x2 := hG6.cell (i := 2) rfl
  have x3 := hG6.cell (i := 3) rfl
  have x4 := hG6.cell (i := 4) rfl
  have y0 := hG6.free 0
  have y1 := hG6.free 1
  have y2 := hG6.free 2
  have y3 := hG6.free 3
  have y4 := hG6.free 4
  obtain ⟨u0, u1, u2, u3, u4, hR⟩ := hE6.r _ (List.mem_singleton.2 rfl)
  have s0 := hR.cell (i := 0) rfl
  have s1 := hR.cell (i := 1) rfl
  have s2 := hR.cell (i := 2) rfl
  have s3 := hR.cell (i := 3) rfl
  have s4 := hR.cell (i := 4) rfl
  have z0 := hR.free 0
  have z1 := hR.free 1
  have z2 := hR.free 2
  have z3 := hR.free 3
  have z4 := hR.free 4
  go_wp2_with fail
  refine bodyPost_ret (v := .tuple #[.agg #[.int .u64 g.x0, .int .u64 g.x1, .int .u64 g.x2, .int .u64 g.x3, .int .u64 g.x4], .bool true]) ?_ rfl ⟨g, Lib.hid (by rw [hg.out]), rfl, gb_set5 hE6.g (by omega) _ _ _ _ _⟩
  simp [results, Tryz.results20, go_sem, s0, s1, s2, s3, s4]
set_option maxRecDepth 100000 in
set_option maxHeartbeats 1600000 in
theorem root_to (p q : Fe) (w0 : World) (hT : FTab w0) (okp : p.Ok) (okq : q.Ok) (h1 : decide (Fe.m (Fe.mulF (Fe.sqF (guessF p q)) q) = Fe.m p) = true) (h3 : decide (Fe.m (guessF p q) % 2 = 1) = true) :
    Calls Tryz.prog 20 #[.agg #[.int .u64 p.x0, .int .u64 p.x1, .int .u64 p.x2, .int .u64 p.x3, .int .u64 p.x4], .agg #[.int .u64 q.x0, .int .u64 q.x1, .int .u64 q.x2, .int .u64 q.x3, .int .u64 q.x4]] w0 (RootOut (Fe.negF (guessF p q)) true w0) := by
  have HT := Lib.hid hT; clear hT
  have H1 := Lib.hid h1; clear h1
  have H3 := Lib.hid h3; clear h3
  have hE0 : EnvB w0 (w0.heap.size + 3) [(w0.heap.size, p), (w0.heap.size + 1, q)] [w0.heap.size + 1 + 1] (((w0.alloc (.cells #[.int .u64 p.x0, .int .u64 p.x1, .int .u64 p.x2, .int .u64 p.x3, .int .u64 p.x4] 27)).alloc (.cells #[.int .u64 q.x0, .int .u64 q.x1, .int .u64 q.x2, .int .u64 q.x3, .int .u64 q.x4] 27)).alloc (.cells #[.int .u64 0, .int .u64 0, .int .u64 0, .int .u64 0, .int .u64 0] 27)) := root_env p q w0
  go_enter Tryz.func20, Tryz.ntmps20
  go_wp2_with fail
  refine (guess_any p q _ okp okq).mono ?_
  rintro e v1 ⟨g, hg, rfl, hg1⟩
  have okg : g.Ok := by rw [hg.out]; exact (Fe.mul_right _ _).ok
  have hE1 := (hE0.grown hg1).grown (World.grownBy_alloc v1 (.cells #[.int .u64 g.x0, .int .u64 g.x1, .int .u64 g.x2, .int .u64 g.x3, .int .u64 g.x4] 27) none)
  have hl1 := (hE0.grown hg1).l
  have hG1 : Blk (v1.alloc (.cells #[.int .u64 g.x0, .int .u64 g.x1, .int .u64 g.x2, .int .u64 g.x3, .int .u64 g.x4] 27)) v1.heap.size 27 (feL g) := Blk.new v1 (feL g) _
  clear hE0 hg1
  have hAp := hE1.e (w0.heap.size, p) (by simp)
  have hAq := hE1.e (w0.heap.size + 1, q) (by simp)
  have c0 := hAp.cell (i := 0) rfl
  have c1 := hAp.cell (i := 1) rfl
  have c2 := hAp.cell (i := 2) rfl
  have c3 := hAp.cell (i := 3) rfl
  have c4 := hAp.cell (i := 4) rfl
  have d0 := hAq.cell (i := 0) rfl
  have d1 := hAq.cell (i := 1) rfl
  have d2 := hAq.cell (i := 2) rfl
  have d3 := hAq.cell (i := 3) rfl
  have d4 := hAq.cell (i := 4) rfl
  go_wp2_with fail
  refine (fits_val g p q true _ okg okp okq (by rw [hg.out]; exact H1.out)).mono ?_
  rintro e v2 ⟨rfl, hg2⟩
  have hE2 := hE1.grown hg2
  have hG2 := hG1.grown hg2 (by simp)
  clear hE1 hG1 hg2 hAp hAq c0 c1 c2 c3 c4 d0 d1 d2 d3 d4
  have hAp := hE2.e (w0.heap.size, p) (by simp)
  have hAq := hE2.e (w0.heap.size + 1, q) (by simp)
  have c0 := hAp.cell (i := 0) rfl
  have c1 := hAp.cell (i := 1) rfl
  have c2 := hAp.cell (i := 2) rfl
  have c3 := hAp.cell (i := 3) rfl
  have c4 := hAp.cell (i := 4) rfl
  have d0 := hAq.cell (i := 0) rfl
  have d1 := hAq.cell (i := 1) rfl
  have d2 := hAq.cell (i := 2) rfl
  have d3 := hAq.cell (i := 3) rfl
  have d4 := hAq.cell (i := 4) rfl
  have x0 := hG2.cell (i := 0) rfl
  have x1 := hG2.cell (i := 1) rfl
  have x2 := hG2.cell (i := 2) rfl
  have x3 := hG2.cell (i := 3) rfl
  have x4 := hG2.cell (i := 4) rfl
  have y0 := hG2.free 0
  have y1 := hG2.free 1
  have y2 := hG2.free 2
  have y3 := hG2.free 3
  have y4 := hG2.free 4
  go_wp2_with fail
  refine (fits_val g p q true _ okg okp okq (by rw [hg.out]; exact H1.out)).mono ?_
  rintro e v5 ⟨rfl, hg5⟩
  have hE5 := hE2.grown hg5
  have hG5 := hG2.grown hg5 (by simp)
  clear hE2 hG2 hg5 hAp hAq c0 c1 c2 c3 c4 d0 d1 d2 d3 d4 x0 x1 x2 x3 x4 y0 y1 y2 y3 y4
  have x0 := hG5.cell (i := 0) rfl
  have x1 := hG5.cell (i := 1) rfl
  have x2 := hG5.cell (i := 2) rfl
  have x3 := hG5.cell (i := 3) rfl
  have x4 := hG5.cell (i := 4) rfl
  have y0 := hG5.free 0
  have y1 := hG5.free 1
  have y2 := hG5.free 2
  have y3 := hG5.free 3
  have y4 := hG5.free 4
  go_wp2_with fail
  refine (odd_val g true _ okg (by rw [hg.out]; exact H3.out)).mono ?_
  rintro e v6 ⟨rfl, hg6⟩
  have hE6 := hE5.grown hg6
  have hG6 := hG5.grown hg6 (by simp)
  clear hE5 hG5 hg6 x0 x1 x2 x3 x4 y0 y1 y2 y3 y4
  have x0 := hG6.cell (i := 0) rfl
  have x1 := hG6.cell (i := 1) rfl
  have x2 := hG6.cell (i := 2) rfl
  have x3 := hG6.cell (i := 3) rfl
  have x4 := hG6.cell (i := 4) rfl
  have y0 := hG6.free 0
  have y1 := hG6.free 1
  have y2 := hG6.free 2
  have y3 := hG6.free 3
  have y4 := hG6.free 4
  go_wp2_with fail
  refine (neg_any g _ (HT.out.grown hE6.g) okg).mono ?_
  rintro e v7 ⟨n, hn, rfl, hg7⟩
  have hK2 : Okb w0 [(w0.heap.size, p), (w0.heap.size + 1, q)] v1.heap.size := by
    refine ⟨by omega, ?_⟩
    intro z hz
    simp only [List.mem_cons, List.not_mem_nil, or_false] at hz
    rcases hz with rfl | rfl <;> simp only [] <;> omega
  have hE8 := (hE6.grown hg7).set hK2 n
  have hG7 := hG6.grown hg7 (by simp)
  clear hE6 hG6 hg7 x0 x1 x2 x3 x4 y0 y1 y2 y3 y4
  have x0 := hG7.cell (i := 0) rfl
  have x1 := hG7.cell (i := 1) rfl
  have x2 := hG7.cell (i := 2) rfl
  have x3 := hG7.cell (i := 3) rfl
  have x4 := hG7.cell (i := 4) rfl
  have y0 := hG7.free 0
  have y1 := hG7.free 1
  have y2 := hG7.free 2
  have y3 := hG7.free 3
  have y4 := hG7.free 4
  obtain ⟨u0, u1, u2, u3, u4, hR⟩ := hE8.r _ (List.mem_singleton.2 rfl)
  unfold set5W at hE8 hR
  have s0 := hR.cell (i := 0) rfl
  have s1 := hR.cell (i := 1) rfl
  have s2 := hR.cell (i := 2) rfl
  have s3 := hR.cell (i := 3) rfl
  have s4 := hR.cell (i := 4) rfl
  have z0 := hR.free 0
  have z1 := hR.free 1
  have z2 := hR.free 2
  have z3 := hR.free 3
  have z4 := hR.free 4
  go_wp2_with fail
  refine bodyPost_ret (v := .tuple #[.agg #[.int .u64 n.x0, .int .u64 n.x1, .int .u64 n.x2, .int .u64 n.x3, .int .u64 n.x4], .bool true]) ?_ rfl ⟨n, Lib.hid (by rw [hn.out, hg.out]), rfl, gb_set5 hE8.g (by omega) _ _ _ _ _⟩
  simp [results, Tryz.results20, go_sem, s0, s1, s2, s3, s4]
set_option maxRecDepth 100000 in
set_option maxHeartbeats 1600000 in
theorem root_fe (p q : Fe) (w0 : World) (hT : FTab w0) (okp : p.Ok) (okq : q.Ok) (h1 : decide (Fe.m (Fe.mulF (Fe.sqF (guessF p q)) q) = Fe.m p) = false) (h2 : decide (Fe.m (Fe.mulF (Fe.sqF (Fe.mulF (guessF p q) rootI)) q) = Fe.m p) = true) (h3 : decide (Fe.m (Fe.mulF (guessF p q) rootI) % 2 = 1) = false) :
    Calls Tryz.prog 20 #[.agg #[.int .u64 p.x0, .int .u64 p.x1, .int .u64 p.x2, .int .u64 p.x3, .int .u64 p.x4], .agg #[.int .u64 q.x0, .int .u64 q.x1, .int .u64 q.x2, .int .u64 q.x3, .int .u64 q.x4]] w0 (RootOut (Fe.mulF (guessF p q) rootI) true w0) := by
  have HT := Lib.hid hT; clear hT
  have H1 := Lib.hid h1; clear h1
  have H2 := Lib.hid h2; clear h2
  have H3 := Lib.hid h3; clear h3
  have hE0 : EnvB w0 (w0.heap.size + 3) [(w0.heap.size, p), (w0.heap.size + 1, q)] [w0.heap.size + 1 + 1] (((w0.alloc (.cells #[.int .u64 p.x0, .int .u64 p.x1, .int .u64 p.x2, .int .u64 p.x3, .int .u64 p.x4] 27)).alloc (.cells #[.int .u64 q.x0, .int .u64 q.x1, .int .u64 q.x2, .int .u64 q.x3, .int .u64 q.x4] 27)).alloc (.cells #[.int .u64 0, .int .u64 0, .int .u64 0, .int .u64 0, .int .u64 0] 27)) := root_env p q w0
  go_enter Tryz.func20, Tryz.ntmps20
  go_wp2_with fail
  refine (guess_any p q _ okp okq).mono ?_
  rintro e v1 ⟨g, hg, rfl, hg1⟩
  have okg : g.Ok := by rw [hg.out]; exact (Fe.mul_right _ _).ok
  have hE1 := (hE0.grown hg1).grown (World.grownBy_alloc v1 (.cells #[.int .u64 g.x0, .int .u64 g.x1, .int .u64 g.x2, .int .u64 g.x3, .int .u64 g.x4] 27) none)
  have hl1 := (hE0.grown hg1).l
  have hG1 : Blk (v1.alloc (.cells #[.int .u64 g.x0, .int .u64 g.x1, .int .u64 g.x2, .int .u64 g.x3, .int .u64 g.x4] 27)) v1.heap.size 27 (feL g) := Blk.new v1 (feL g) _
  clear hE0 hg1
  have hAp := hE1.e (w0.heap.size, p) (by simp)
  have hAq := hE1.e (w0.heap.size + 1, q) (by simp)
  have c0 := hAp.cell (i := 0) rfl
  have c1 := hAp.cell (i := 1) rfl
  have c2 := hAp.cell (i := 2) rfl
  have c3 := hAp.cell (i := 3) rfl
  have c4 := hAp.cell (i := 4) rfl
  have d0 := hAq.cell (i := 0) rfl
  have d1 := hAq.cell (i := 1) rfl
  have d2 := hAq.cell (i := 2) rfl
  have d3 := hAq.cell (i := 3) rfl
  have d4 := hAq.cell (i := 4) rfl
  go_wp2_with fail
  refine (fits_val g p q false _ okg okp okq (by rw [hg.out]; exact H1.out)).mono ?_
  rintro e v2 ⟨rfl, hg2⟩
  have hE2 := hE1.grown hg2
  have hG2 := hG1.grown hg2 (by simp)
  clear hE1 hG1 hg2 hAp hAq c0 c1 c2 c3 c4 d0 d1 d2 d3 d4
  have hAp := hE2.e (w0.heap.size, p) (by simp)
  have hAq := hE2.e (w0.heap.size + 1, q) (by simp)
  have c0 := hAp.cell (i := 0) rfl
  have c1 := hAp.cell (i := 1) rfl
  have c2 := hAp.cell (i := 2) rfl
  have c3 := hAp.cell (i := 3) rfl
  have c4 := hAp.cell (i := 4) rfl
  have d0 := hAq.cell (i := 0) rfl
  have d1 := hAq.cell (i := 1) rfl
  have d2 := hAq.cell (i := 2) rfl
  have d3 := hAq.cell (i := 3) rfl
  have d4 := hAq.cell (i := 4) rfl
  have x0 := hG2.cell (i := 0) rfl
  have x1 := hG2.cell (i := 1) rfl
  have x2 := hG2.cell (i := 2) rfl
  have x3 := hG2.cell (i := 3) rfl
  have x4 := hG2.cell (i := 4) rfl
  have y0 := hG2.free 0
  have y1 := hG2.free 1
  have y2 := hG2.free 2
  have y3 := hG2.free 3
  have y4 := hG2.free 4
  have HTv := HT.out.grown hE2.g
  have t0 : v2.cell? ⟨0, 0, none⟩ = some (.int .u64 rootI.x0) := HTv.q 0 (by decide)
  have t1 : v2.cell? ⟨0, 1, none⟩ = some (.int .u64 rootI.x1) := HTv.q 1 (by decide)
  have t2 : v2.cell? ⟨0, 2, none⟩ = some (.int .u64 rootI.x2) := HTv.q 2 (by decide)
  have t3 : v2.cell? ⟨0, 3, none⟩ = some (.int .u64 rootI.x3) := HTv.q 3 (by decide)
  have t4 : v2.cell? ⟨0, 4, none⟩ = some (.int .u64 rootI.x4) := HTv.q 4 (by decide)
  clear HTv
  go_wp2_with fail
  refine (mul_fe g rootI _ okg rootI_ok).mono ?_
  rintro e v3 ⟨gi, hgi, rfl, hg3⟩
  have okgi : gi.Ok := by rw [hgi.out]; exact (Fe.mul_right _ _).ok
  have hK : Okb w0 [(w0.heap.size, p), (w0.heap.size + 1, q)] v1.heap.size := by
    refine ⟨by omega, ?_⟩
    intro z hz
    simp only [List.mem_cons, List.not_mem_nil, or_false] at hz
    rcases hz with rfl | rfl <;> simp only [] <;> omega
  have hE4 := (hE2.grown hg3).set hK gi
  have hG4 : Blk (set5W v3 v1.heap.size gi) v1.heap.size 27 (feL gi) := set5W_same ⟨_, _, _, _, _, hG2.grown hg3 (by simp)⟩
  have hG3 := hG2.grown hg3 (by simp)
  clear hE2 hG2 hg3 hAp hAq c0 c1 c2 c3 c4 d0 d1 d2 d3 d4 x0 x1 x2 x3 x4 y0 y1 y2 y3 y4 t0 t1 t2 t3 t4
  have x0 := hG3.cell (i := 0) rfl
  have x1 := hG3.cell (i := 1) rfl
  have x2 := hG3.cell (i := 2) rfl
  have x3 := hG3.cell (i := 3) rfl
  have x4 := hG3.cell (i := 4) rfl
  have y0 := hG3.free 0
  have y1 := hG3.free 1
  have y2 := hG3.free 2
  have y3 := hG3.free 3
  have y4 := hG3.free 4
  have hAp := hE4.e (w0.heap.size, p) (by simp)
  have hAq := hE4.e (w0.heap.size + 1, q) (by simp)
  unfold set5W at hE4 hG4 hAp hAq
  have c0 := hAp.cell (i := 0) rfl
  have c1 := hAp.cell (i := 1) rfl
  have c2 := hAp.cell (i := 2) rfl
  have c3 := hAp.cell (i := 3) rfl
  have c4 := hAp.cell (i := 4) rfl
  have d0 := hAq.cell (i := 0) rfl
  have d1 := hAq.cell (i := 1) rfl
  have d2 := hAq.cell (i := 2) rfl
  have d3 := hAq.cell (i := 3) rfl
  have d4 := hAq.cell (i := 4) rfl
  go_wp2_with fail
  refine (fits_val gi p q true _ okgi okp okq (by rw [hgi.out, hg.out]; exact H2.out)).mono ?_
  rintro e v5 ⟨rfl, hg5⟩
  have hE5 := hE4.grown hg5
  have hG5 := hG4.grown hg5 (by simp)
  clear hE4 hG4 hG3 hg5 hAp hAq c0 c1 c2 c3 c4 d0 d1 d2 d3 d4 x0 x1 x2 x3 x4 y0 y1 y2 y3 y4
  have x0 := hG5.cell (i := 0) rfl
  have x1 := hG5.cell (i := 1) rfl
  have x2 := hG5.cell (i := 2) rfl
  have x3 := hG5.cell (i := 3) rfl
  have x4 := hG5.cell (i := 4) rfl
  have y0 := hG5.free 0
  have y1 := hG5.free 1
  have y2 := hG5.free 2
  have y3 := hG5.free 3
  have y4 := hG5.free 4
  go_wp2_with fail
  refine (odd_val gi false _ okgi (by rw [hgi.out, hg.out]; exact H3.out)).mono ?_
  rintro e v6 ⟨rfl, hg6⟩
  have hE6 := hE5.grown hg6
  have hG6 := hG5.grown hg6 (by simp)
  clear hE5 hG5 hg6 x0 x1 x2 x3 x4 y0 y1 y2 y3 y4
  have x0 := hG6.cell (i := 0) rfl
  have x1 := hG6.cell (i := 1) rfl
  have x2 := hG6.cell (i := 2) rfl
  have x3 := hG6.cell (i := 3) rfl
  have x4 := hG6.cell (i := 4) rfl
  have y0 := hG6.free 0
  have y1 := hG6.free 1
  have y2 := hG6.free 2
  have y3 := hG6.free 3
  have y4 := hG6.free 4
  obtain ⟨u0, u1, u2, u3, u4, hR⟩ := hE6.r _ (List.mem_singleton.2 rfl)
  have s0 := hR.cell (i := 0) rfl
  have s1 := hR.cell (i := 1) rfl
  have s2 := hR.cell (i := 2) rfl
  have s3 := hR.cell (i := 3) rfl
  have s4 := hR.cell (i := 4) rfl
  have z0 := hR.free 0
  have z1 := hR.free 1
  have z2 := hR.free 2
  have z3 := hR.free 3
  have z4 := hR.free 4
  go_wp2_with fail
  refine bodyPost_ret (v := .tuple #[.agg #[.int .u64 gi.x0, .int .u64 gi.x1, .int .u64 gi.x2, .int .u64 gi.x3, .int .u64 gi.x4], .bool true]) ?_ rfl ⟨gi, Lib.hid (by rw [hgi.out, hg.out]), rfl, gb_set5 hE6.g (by omega) _ _ _ _ _⟩
  simp [results, Tryz.results20, go_sem, s0, s1, s2, s3, s4]
set_option maxRecDepth 100000 in
set_option maxHeartbeats 1600000 in
theorem root_fo (p q : Fe) (w0 : World) (hT : FTab w0) (okp : p.Ok) (okq : q.Ok) (h1 : decide (Fe.m (Fe.mulF (Fe.sqF (guessF p q)) q) = Fe.m p) = false) (h2 : decide (Fe.m (Fe.mulF (Fe.sqF (Fe.mulF (guessF p q) rootI)) q) = Fe.m p) = true) (h3 : decide (Fe.m (Fe.mulF (guessF p q) rootI) % 2 = 1) = true) :
    Calls Tryz.prog 20 #[.agg #[.int .u64 p.x0, .int .u64 p.x1, .int .u64 p.x2, .int .u64 p.x3, .int .u64 p.x4], .agg #[.int .u64 q.x0, .int .u64 q.x1, .int .u64 q.x2, .int .u64 q.x3, .int .u64 q.x4]] w0 (RootOut (Fe.negF (Fe.mulF (guessF p q) rootI)) true w0) := by
  have HT := Lib.hid hT; clear hT
  have H1 := Lib.hid h1; clear h1
  have H2 := Lib.hid h2; clear h2
  have H3 := Lib.hid h3; clear h3
  have hE0 : EnvB w0 (w0.heap.size + 3) [(w0.heap.size, p), (w0.heap.size + 1, q)] [w0.heap.size + 1 + 1] (((w0.alloc (.cells #[.int .u64 p.x0, .int .u64 p.x1, .int .u64 p.x2, .int .u64 p.x3, .int .u64 p.x4] 27)).alloc (.cells #[.int .u64 q.x0, .int .u64 q.x1, .int .u64 q.x2, .int .u64 q.x3, .int .u64 q.x4] 27)).alloc (.cells #[.int .u64 0, .int .u64 0, .int .u64 0, .int .u64 0, .int .u64 0] 27)) := root_env p q w0
  go_enter Tryz.func20, Tryz.ntmps20
  go_wp2_with fail
  refine (guess_any p q _ okp okq).mono ?_
  rintro e v1 ⟨g, hg, rfl, hg1⟩
  have okg : g.Ok := by rw [hg.out]; exact (Fe.mul_right _ _).ok
  have hE1 := (hE0.grown hg1).grown (World.grownBy_alloc v1 (.cells #[.int .u64 g.x0, .int .u64 g.x1, .int .u64 g.x2, .int .u64 g.x3, .int .u64 g.x4] 27) none)
  have hl1 := (hE0.grown hg1).l
  have hG1 : Blk (v1.alloc (.cells #[.int .u64 g.x0, .int .u64 g.x1, .int .u64 g.x2, .int .u64 g.x3, .int .u64 g.x4] 27)) v1.heap.size 27 (feL g) := Blk.new v1 (feL g) _
  clear hE0 hg1
  have hAp := hE1.e (w0.heap.size, p) (by simp)
  have hAq := hE1.e (w0.heap.size + 1, q) (by simp)
  have c0 := hAp.cell (i := 0) rfl
  have c1 := hAp.cell (i := 1) rfl
  have c2 := hAp.cell (i := 2) rfl
  have c3 := hAp.cell (i := 3) rfl
  have c4 := hAp.cell (i := 4) rfl
  have d0 := hAq.cell (i := 0) rfl
  have d1 := hAq.cell (i := 1) rfl
  have d2 := hAq.cell (i := 2) rfl
  have d3 := hAq.cell (i := 3) rfl
  have d4 := hAq.cell (i := 4) rfl
  go_wp2_with fail
  refine (fits_val g p q false _ okg okp okq (by rw [hg.out]; exact H1.out)).mono ?_
  rintro e v2 ⟨rfl, hg2⟩
  have hE2 := hE1.grown hg2
  have hG2 := hG1.grown hg2 (by simp)
  clear hE1 hG1 hg2 hAp hAq c0 c1 c2 c3 c4 d0 d1 d2 d3 d4
  have hAp := hE2.e (w0.heap.size, p) (by simp)
  have hAq := hE2.e (w0.heap.size + 1, q) (by simp)
  have c0 := hAp.cell (i := 0) rfl
  have c1 := hAp.cell (i := 1) rfl
  have c2 := hAp.cell (i := 2) rfl
  have c3 := hAp.cell (i := 3) rfl
  have c4 := hAp.cell (i := 4) rfl
  have d0 := hAq.cell (i := 0) rfl
  have d1 := hAq.cell (i := 1) rfl
  have d2 := hAq.cell (i := 2) rfl
  have d3 := hAq.cell (i := 3) rfl
  have d4 := hAq.cell (i := 4) rfl
  have x0 := hG2.cell (i := 0) rfl
  have x1 := hG2.cell (i := 1) rfl
  have x2 := hG2.cell (i := 2) rfl
  have x3 := hG2.cell (i := 3) rfl
  have x4 := hG2.cell (i := 4) rfl
  have y0 := hG2.free 0
  have y1 := hG2.free 1
  have y2 := hG2.free 2
  have y3 := hG2.free 3
  have y4 := hG2.free 4
  have HTv := HT.out.grown hE2.g
  have t0 : v2.cell? ⟨0, 0, none⟩ = some (.int .u64 rootI.x0) := HTv.q 0 (by decide)
  have t1 : v2.cell? ⟨0, 1, none⟩ = some (.int .u64 rootI.x1) := HTv.q 1 (by decide)
  have t2 : v2.cell? ⟨0, 2, none⟩ = some (.int .u64 rootI.x2) := HTv.q 2 (by decide)
  have t3 : v2.cell? ⟨0, 3, none⟩ = some (.int .u64 rootI.x3) := HTv.q 3 (by decide)
  have t4 : v2.cell? ⟨0, 4, none⟩ = some (.int .u64 rootI.x4) := HTv.q 4 (by decide)
  clear HTv
  go_wp2_with fail
  refine (mul_fe g rootI _ okg rootI_ok).mono ?_
  rintro e v3 ⟨gi, hgi, rfl, hg3⟩
  have okgi : gi.Ok := by rw [hgi.out]; exact (Fe.mul_right _ _).ok
  have hK : Okb w0 [(w0.heap.size, p), (w0.heap.size + 1, q)] v1.heap.size := by
    refine ⟨by omega, ?_⟩
    intro z hz
    simp only [List.mem_cons, List.not_mem_nil, or_false] at hz
    rcases hz with rfl | rfl <;> simp only [] <;> omega
  have hE4 := (hE2.grown hg3).set hK gi
  have hG4 : Blk (set5W v3 v1.heap.size gi) v1.heap.size 27 (feL gi) := set5W_same ⟨_, _, _, _, _, hG2.grown hg3 (by simp)⟩
  have hG3 := hG2.grown hg3 (by simp)
  clear hE2 hG2 hg3 hAp hAq c0 c1 c2 c3 c4 d0 d1 d2 d3 d4 x0 x1 x2 x3 x4 y0 y1 y2 y3 y4 t0 t1 t2 t3 t4
  have x0 := hG3.cell (i := 0) rfl
  have x1 := hG3.cell (i := 1) rfl
  have x2 := hG3.cell (i := 2) rfl
  have x3 := hG3.cell (i := 3) rfl
  have x4 := hG3.cell (i := 4) rfl
  have y0 := hG3.free 0
  have y1 := hG3.free 1
  have y2 := hG3.free 2
  have y3 := hG3.free 3
  have y4 := hG3.free 4
  have hAp := hE4.e (w0.heap.size, p) (by simp)
  have hAq := hE4.e (w0.heap.size + 1, q) (by simp)
  unfold set5W at hE4 hG4 hAp hAq
  have c0 := hAp.cell (i := 0) rfl
  have c1 := hAp.cell (i := 1) rfl
  have c2 := hAp.cell (i := 2) rfl
  have c3 := hAp.cell (i := 3) rfl
  have c4 := hAp.cell (i := 4) rfl
  have d0 := hAq.cell (i := 0) rfl
  have d1 := hAq.cell (i := 1) rfl
  have d2 := hAq.cell (i := 2) rfl
  have d3 := hAq.cell (i := 3) rfl
  have d4 := hAq.cell (i := 4) rfl
  go_wp2_with fail
  refine (fits_val gi p q true _ okgi okp okq (by rw [hgi.out, hg.out]; exact H2.out)).mono ?_
  rintro e v5 ⟨rfl, hg5⟩
  have hE5 := hE4.grown hg5
  have hG5 := hG4.grown hg5 (by simp)
  clear hE4 hG4 hG3 hg5 hAp hAq c0 c1 c2 c3 c4 d0 d1 d2 d3 d4 x0 x1 x2 x3 x4 y0 y1 y2 y3 y4
  have x0 := hG5.cell (i := 0) rfl
  have x1 := hG5.cell (i := 1) rfl
  have x2 := hG5.cell (i := 2) rfl
  have x3 := hG5.cell (i := 3) rfl
  have x4 := hG5.cell (i := 4) rfl
  have y0 := hG5.free 0
  have y1 := hG5.free 1
  have y2 := hG5.free 2
  have y3 := hG5.free 3
  have y4 := hG5.free 4
  go_wp2_with fail
  refine (odd_val gi true _ okgi (by rw [hgi.out, hg.out]; exact H3.out)).mono ?_
  rintro e v6 ⟨rfl, hg6⟩
  have hE6 := hE5.grown hg6
  have hG6 := hG5.grown hg6 (by simp)
  clear hE5 hG5 hg6 x0 x1 x2 x3 x4 y0 y1 y2 y3 y4
  have x0 := hG6.cell (i := 0) rfl
  have x1 := hG6.cell (i := 1) rfl
  have x2 := hG6.cell (i := 2) rfl
  have x3 := hG6.cell (i := 3) rfl
  have x4 := hG6.cell (i := 4) rfl
  have y0 := hG6.free 0
  have y1 := hG6.free 1
  have y2 := hG6.free 2
  have y3 := hG6.free 3
  have y4 := hG6.free 4
  go_wp2_with fail
  refine (neg_any gi _ (HT.out.grown hE6.g) okgi).mono ?_
  rintro e v7 ⟨n, hn, rfl, hg7⟩
  have hK2 : Okb w0 [(w0.heap.size, p), (w0.heap.size + 1, q)] v1.heap.size := by
    refine ⟨by omega, ?_⟩
    intro z hz
    simp only [List.mem_cons, List.not_mem_nil, or_false] at hz
    rcases hz with rfl | rfl <;> simp only [] <;> omega
  have hE8 := (hE6.grown hg7).set hK2 n
  have hG7 := hG6.grown hg7 (by simp)
  clear hE6 hG6 hg7 x0 x1 x2 x3 x4 y0 y1 y2 y3 y4
  have x0 := hG7.cell (i := 0) rfl
  have x1 := hG7.cell (i := 1) rfl
  have x2 := hG7.cell (i := 2) rfl
  have x3 := hG7.cell (i := 3) rfl
  have x4 := hG7.cell (i := 4) rfl
  have y0 := hG7.free 0
  have y1 := hG7.free 1
  have y2 := hG7.free 2
  have y3 := hG7.free 3
  have y4 := hG7.free 4
  obtain ⟨u0, u1, u2, u3, u4, hR⟩ := hE8.r _ (List.mem_singleton.2 rfl)
  unfold set5W at hE8 hR
  have s0 := hR.cell (i := 0) rfl
  have s1 := hR.cell (i := 1) rfl
  have s2 := hR.cell (i := 2) rfl
  have s3 := hR.cell (i := 3) rfl
  have s4 := hR.cell (i := 4) rfl
  have z0 := hR.free 0
  have z1 := hR.free 1
  have z2 := hR.free 2
  have z3 := hR.free 3
  have z4 := hR.free 4
  go_wp2_with fail
  refine bodyPost_ret (v := .tuple #[.agg #[.int .u64 n.x0, .int .u64 n.x1, .int .u64 n.x2, .int .u64 n.x3, .int .u64 n.x4], .bool true]) ?_ rfl ⟨n, Lib.hid (by rw [hn.out, hgi.out, hg.out]), rfl, gb_set5 hE8.g (by omega) _ _ _ _ _⟩
  simp [results, Tryz.results20, go_sem, s0, s1, s2, s3, s4]
set_option maxRecDepth 100000 in
set_option maxHeartbeats 1600000 in
theorem root_no (p q : Fe) (w0 : World) (hT : FTab w0) (okp : p.Ok) (okq : q.Ok) (h1 : decide (Fe.m (Fe.mulF (Fe.sqF (guessF p q)) q) = Fe.m p) = false) (h2 : decide (Fe.m (Fe.mulF (Fe.sqF (Fe.mulF (guessF p q) rootI)) q) = Fe.m p) = false) :
    Calls Tryz.prog 20 #[.agg #[.int .u64 p.x0, .int .u64 p.x1, .int .u64 p.x2, .int .u64 p.x3, .int .u64 p.x4], .agg #[.int .u64 q.x0, .int .u64 q.x1, .int .u64 q.x2, .int .u64 q.x3, .int .u64 q.x4]] w0 (RootOut Fe.zeroF false w0) := by
  have HT := Lib.hid hT; clear hT
  have H1 := Lib.hid h1; clear h1
  have H2 := Lib.hid h2; clear h2
  have hE0 : EnvB w0 (w0.heap.size + 3) [(w0.heap.size, p), (w0.heap.size + 1, q)] [w0.heap.size + 1 + 1] (((w0.alloc (.cells #[.int .u64 p.x0, .int .u64 p.x1, .int .u64 p.x2, .int .u64 p.x3, .int .u64 p.x4] 27)).alloc (.cells #[.int .u64 q.x0, .int .u64 q.x1, .int .u64 q.x2, .int .u64 q.x3, .int .u64 q.x4] 27)).alloc (.cells #[.int .u64 0, .int .u64 0, .int .u64 0, .int .u64 0, .int .u64 0] 27)) := root_env p q w0
  go_enter Tryz.func20, Tryz.ntmps20
  go_wp2_with fail
  refine (guess_any p q _ okp okq).mono ?_
  rintro e v1 ⟨g, hg, rfl, hg1⟩
  have okg : g.Ok := by rw [hg.out]; exact (Fe.mul_right _ _).ok
  have hE1 := (hE0.grown hg1).grown (World.grownBy_alloc v1 (.cells #[.int .u64 g.x0, .int .u64 g.x1, .int .u64 g.x2, .int .u64 g.x3, .int .u64 g.x4] 27) none)
  have hl1 := (hE0.grown hg1).l
  have hG1 : Blk (v1.alloc (.cells #[.int .u64 g.x0, .int .u64 g.x1, .int .u64 g.x2, .int .u64 g.x3, .int .u64 g.x4] 27)) v1.heap.size 27 (feL g) := Blk.new v1 (feL g) _
  clear hE0 hg1
  have hAp := hE1.e (w0.heap.size, p) (by simp)
  have hAq := hE1.e (w0.heap.size + 1, q) (by simp)
  have c0 := hAp.cell (i := 0) rfl
  have c1 := hAp.cell (i := 1) rfl
  have c2 := hAp.cell (i := 2) rfl
  have c3 := hAp.cell (i := 3) rfl
  have c4 := hAp.cell (i := 4) rfl
  have d0 := hAq.cell (i := 0) rfl
  have d1 := hAq.cell (i := 1) rfl
  have d2 := hAq.cell (i := 2) rfl
  have d3 := hAq.cell (i := 3) rfl
  have d4 := hAq.cell (i := 4) rfl
  go_wp2_with fail
  refine (fits_val g p q false _ okg okp okq (by rw [hg.out]; exact H1.out)).mono ?_
  rintro e v2 ⟨rfl, hg2⟩
  have hE2 := hE1.grown hg2
  have hG2 := hG1.grown hg2 (by simp)
  clear hE1 hG1 hg2 hAp hAq c0 c1 c2 c3 c4 d0 d1 d2 d3 d4
  have hAp := hE2.e (w0.heap.size, p) (by simp)
  have hAq := hE2.e (w0.heap.size + 1, q) (by simp)
  have c0 := hAp.cell (i := 0) rfl
  have c1 := hAp.cell (i := 1) rfl
  have c2 := hAp.cell (i := 2) rfl
  have c3 := hAp.cell (i := 3) rfl
  have c4 := hAp.cell (i := 4) rfl
  have d0 := hAq.cell (i := 0) rfl
  have d1 := hAq.cell (i := 1) rfl
  have d2 := hAq.cell (i := 2) rfl
  have d3 := hAq.cell (i := 3) rfl
  have d4 := hAq.cell (i := 4) rfl
  have x0 := hG2.cell (i := 0) rfl
  have x1 := hG2.cell (i := 1) rfl
  have x2 := hG2.cell (i := 2) rfl
  have x3 := hG2.cell (i := 3) rfl
  have x4 := hG2.cell (i := 4) rfl
  have y0 := hG2.free 0
  have y1 := hG2.free 1
  have y2 := hG2.free 2
  have y3 := hG2.free 3
  have y4 := hG2.free 4
  have HTv := HT.out.grown hE2.g
  have t0 : v2.cell? ⟨0, 0, none⟩ = some (.int .u64 rootI.x0) := HTv.q 0 (by decide)
  have t1 : v2.cell? ⟨0, 1, none⟩ = some (.int .u64 rootI.x1) := HTv.q 1 (by decide)
  have t2 : v2.cell? ⟨0, 2, none⟩ = some (.int .u64 rootI.x2) := HTv.q 2 (by decide)
  have t3 : v2.cell? ⟨0, 3, none⟩ = some (.int .u64 rootI.x3) := HTv.q 3 (by decide)
  have t4 : v2.cell? ⟨0, 4, none⟩ = some (.int .u64 rootI.x4) := HTv.q 4 (by decide)
  clear HTv
  go_wp2_with fail
  refine (mul_fe g rootI _ okg rootI_ok).mono ?_
  rintro e v3 ⟨gi, hgi, rfl, hg3⟩
  have okgi : gi.Ok := by rw [hgi.out]; exact (Fe.mul_right _ _).ok
  have hK : Okb w0 [(w0.heap.size, p), (w0.heap.size + 1, q)] v1.heap.size := by
    refine ⟨by omega, ?_⟩
    intro z hz
    simp only [List.mem_cons, List.not_mem_nil, or_false] at hz
    rcases hz with rfl | rfl <;> simp only [] <;> omega
  have hE4 := (hE2.grown hg3).set hK gi
  have hG4 : Blk (set5W v3 v1.heap.size gi) v1.heap.size 27 (feL gi) := set5W_same ⟨_, _, _, _, _, hG2.grown hg3 (by simp)⟩
  have hG3 := hG2.grown hg3 (by simp)
  clear hE2 hG2 hg3 hAp hAq c0 c1 c2 c3 c4 d0 d1 d2 d3 d4 x0 x1 x2 x3 x4 y0 y1 y2 y3 y4 t0 t1 t2 t3 t4
  have x0 := hG3.cell (i := 0) rfl
  have x1 := hG3.cell (i := 1) rfl
  have x2 := hG3.cell (i := 2) rfl
  have x3 := hG3.cell (i := 3) rfl
  have x4 := hG3.cell (i := 4) rfl
  have y0 := hG3.free 0
  have y1 := hG3.free 1
  have y2 := hG3.free 2
  have y3 := hG3.free 3
  have y4 := hG3.free 4
  have hAp := hE4.e (w0.heap.size, p) (by simp)
  have hAq := hE4.e (w0.heap.size + 1, q) (by simp)
  unfold set5W at hE4 hG4 hAp hAq
  have c0 := hAp.cell (i := 0) rfl
  have c1 := hAp.cell (i := 1) rfl
  have c2 := hAp.cell (i := 2) rfl
  have c3 := hAp.cell (i := 3) rfl
  have c4 := hAp.cell (i := 4) rfl
  have d0 := hAq.cell (i := 0) rfl
  have d1 := hAq.cell (i := 1) rfl
  have d2 := hAq.cell (i := 2) rfl
  have d3 := hAq.cell (i := 3) rfl
  have d4 := hAq.cell (i := 4) rfl
  go_wp2_with fail
  refine (fits_val gi p q false _ okgi okp okq (by rw [hgi.out, hg.out]; exact H2.out)).mono ?_
  rintro e v5 ⟨rfl, hg5⟩
  have hE5 := hE4.grown hg5
  have hG5 := hG4.grown hg5 (by simp)
  clear hE4 hG4 hG3 hg5 hAp hAq c0 c1 c2 c3 c4 d0 d1 d2 d3 d4 x0 x1 x2 x3 x4 y0 y1 y2 y3 y4
  obtain ⟨u0, u1, u2, u3, u4, hR⟩ := hE5.r _ (List.mem_singleton.2 rfl)
  have s0 := hR.cell (i := 0) rfl
  have s1 := hR.cell (i := 1) rfl
  have s2 := hR.cell (i := 2) rfl
  have s3 := hR.cell (i := 3) rfl
  have s4 := hR.cell (i := 4) rfl
  have z0 := hR.free 0
  have z1 := hR.free 1
  have z2 := hR.free 2
  have z3 := hR.free 3
  have z4 := hR.free 4
  go_wp2_with fail
  refine bodyPost_ret (v := .tuple #[.agg #[.int .u64 0, .int .u64 0, .int .u64 0, .int .u64 0, .int .u64 0], .bool false]) ?_ rfl ⟨Fe.zeroF, Lib.hid rfl, rfl, gb_set5 hE5.g (by omega) _ _ _ _ _⟩
  simp [results, Tryz.results20, go_sem, s0, s1, s2, s3, s4]
end Go.Proofs.YtcmnecnbcohaeaaGreatDoor

/- field: regions that draw their order over elements, slices of elements and of bytes, with guards: what slots hold, what stays. -/
namespace Go.Proofs.YtcmnecnbcohaeaaGreatDoor
open Go.RowKit

def fesL (L : List Fe) : List Value := L.flatMap feL
inductive Item3 where
  | any
  | val (x : Value)
  | ptr
  | elems (n : Nat) (L : List Fe)
  | bytes (x : Int)
def Item3.holds (K : Nat → Prop) : Item3 → Value → World → Prop
  | .any, _, _ => True
  | .val x, v, _ => v = x
  | .ptr, v, w => ∃ Bn, v = .pointer (some ⟨Bn, 0, none⟩) ∧ Room5 w Bn 27 ∧ K Bn
  | .elems n L, v, w => ∃ PB, v = .slice (some ⟨PB, 0, none⟩) n n ∧ Blk w PB 27 (fesL L)
  | .bytes x, v, w => ∃ NB, v = .slice (some ⟨NB, 0, none⟩) 32 32 ∧ ∃ T, Blk w NB T (bytesV x)
def Item3.plain : Item3 → Bool
  | .elems _ _ => false
  | .bytes _ => false
  | _ => true
def items3 (K : Nat → Prop) (L : List Item3) (d : Nat) (v : Value) (w : World) : Prop := (L.getD d .any).holds K v w
theorem items3_grown {K : Nat → Prop} {L : List Item3} {w w' : World} (hg : w.grownBy w' none) (d : Nat) (v : Value) (h : items3 K L d v w) : items3 K L d v w' := by
  unfold items3 at *
  cases hx : L.getD d .any with
  | any => trivial
  | val x => rw [hx] at h; exact h
  | ptr => rw [hx] at h; obtain ⟨Bn, hv, hr, hN⟩ := h; exact ⟨Bn, hv, hr.grown hg (by simp), hN⟩
  | elems n E => rw [hx] at h; obtain ⟨Bn, hv, hr⟩ := h; exact ⟨Bn, hv, hr.grown hg (by simp)⟩
  | bytes x => rw [hx] at h; obtain ⟨Bn, hv, T, hr⟩ := h; exact ⟨Bn, hv, T, hr.grown hg (by simp)⟩
theorem items3_set {K : Nat → Prop} {L : List Item3} (hp : L.all Item3.plain = true) {w : World} (B : Nat) (r : Fe) (d : Nat) (v : Value) (h : items3 K L d v w) : items3 K L d v (set5W w B r) := by
  unfold items3 at *
  have hpl : (L.getD d .any).plain = true := by
    rw [List.getD_eq_getElem?_getD]
    cases hx : L[d]? with
    | none => rfl
    | some x => exact (List.all_eq_true.1 hp) x (List.mem_of_getElem? hx)
  cases hx : L.getD d .any with
  | any => trivial
  | val x => rw [hx] at h; exact h
  | ptr => rw [hx] at h; obtain ⟨Bn, hv, hr, hN⟩ := h; exact ⟨Bn, hv, set5W_room hr B, hN⟩
  | elems n E => rw [hx] at hpl; cases hpl
  | bytes x => rw [hx] at hpl; cases hpl
def Stored3 (K : Nat → Prop) (r : Nat → Fe) (j : Nat) (u : Value) (w : World) : Prop := ∃ Bn, u = .pointer (some ⟨Bn, 0, none⟩) ∧ K Bn ∧ Blk w Bn 27 (feL (r j))
theorem stored3_grown {K : Nat → Prop} {r : Nat → Fe} {w w' : World} (hg : w.grownBy w' none) (j : Nat) (u : Value) (h : Stored3 K r j u w) : Stored3 K r j u w' := by
  obtain ⟨Bn, hu, hN, hb⟩ := h
  exact ⟨Bn, hu, hN, hb.grown hg (by simp)⟩
section
variable {P : Program} {ops : Array Oper} {Q : Exit → Act → World → Prop} {K : Nat → Prop} {L : List Item3} {r : Nat → Fe} {w0 : World} {N : Nat} {env : List (Nat × Fe)} {rooms : List Nat} {st : Nat → Nat} {ps : List Nat} {a0 : Act}
theorem fe3_value {i : Nat} {o : Oper} {d : Nat} (hd : o.dst = some d) (hps : (ps.all fun s => s != d) = true)
    (h : ∀ a w, FlowAt3 (items3 K L) st (Stored3 K r) (EnvB w0 N env rooms) ps a0 ops o a w → Wants ops o a ∧ ∃ v w', (execOp a.eval o).run P w = .ok (.value v) w' ∧ w.grownBy w' none ∧ items3 K L d v w') :
    FlowStep3 P Q (items3 K L) st (Stored3 K r) (EnvB w0 N env rooms) ps a0 ops i o :=
  flow3_value hd fun a w hF => by
    obtain ⟨hw, v, w', hr, hg, hG⟩ := h a w hF
    refine ⟨hw, v, w', hr, hF.base.grown hg, items3_grown hg, stored3_grown hg, ptrs_put hF.ptrs hg.size (fun s hs e => ?_), hG⟩
    have := (List.all_eq_true.1 hps) s hs
    rw [Option.some.inj e] at this
    simp at this
theorem fe3_alloc {i : Nat} {o : Oper} {d : Nat} (hd : o.dst = some d) (hlt : d < a0.tmps.size)
    (h : ∀ a w, FlowAt3 (items3 K L) st (Stored3 K r) (EnvB w0 N env rooms) ps a0 ops o a w → Wants ops o a ∧ ∃ w', (execOp a.eval o).run P w = .ok (.value (.pointer (some ⟨w.heap.size, 0, none⟩))) w' ∧ w.grownBy w' none ∧ w.heap.size < w'.heap.size ∧ items3 K L d (.pointer (some ⟨w.heap.size, 0, none⟩)) w') :
    FlowStep3 P Q (items3 K L) st (Stored3 K r) (EnvB w0 N env rooms) ps a0 ops i o :=
  flow3_value hd fun a w hF => by
    obtain ⟨hw, w', hr, hg, hs, hG⟩ := h a w hF
    exact ⟨hw, _, w', hr, hF.base.grown hg, items3_grown hg, stored3_grown hg, ptrs_new hF.ptrs hs (by rw [hF.size]; exact hlt), hG⟩
theorem fe3_call {i : Nat} {o : Oper} {d : Nat} (hd : o.dst = some d) (hps : (ps.all fun s => s != d) = true)
    (h : ∀ a w, FlowAt3 (items3 K L) st (Stored3 K r) (EnvB w0 N env rooms) ps a0 ops o a w → Wants ops o a ∧ ∃ f args, (execOp a.eval o).run P w = .ok (.enter f args) w ∧ Calls P f args w fun e w' => ∃ v, e = .returned v ∧ w.grownBy w' none ∧ items3 K L d v w') :
    FlowStep3 P Q (items3 K L) st (Stored3 K r) (EnvB w0 N env rooms) ps a0 ops i o :=
  flow3_call hd fun a w hF => by
    obtain ⟨hw, f, args, hr, hc⟩ := h a w hF
    refine ⟨hw, f, args, hr, hc.mono fun e w' he => ?_⟩
    obtain ⟨v, rfl, hg, hG⟩ := he
    refine ⟨v, rfl, hF.base.grown hg, items3_grown hg, stored3_grown hg, ptrs_put hF.ptrs hg.size (fun s hs e => ?_), hG⟩
    have := (List.all_eq_true.1 hps) s hs
    rw [Option.some.inj e] at this
    simp at this
theorem fe3_store {i p : Nat} {o : Oper} (hd : o.dst = none) (hst : st i = p) (hpl : L.all Item3.plain = true) (hK : K = Okb w0 env)
    (hap : ∀ j oj, j ≠ i → ops[j]? = some oj → oj.dst = none → st j ∈ ps ∧ st j ≠ p) (hp : p ∈ ps ∨ ∀ j oj, j ≠ i → ops[j]? = some oj → oj.dst ≠ none)
    (h : ∀ a w, FlowAt3 (items3 K L) st (Stored3 K r) (EnvB w0 N env rooms) ps a0 ops o a w → Wants ops o a ∧ ∃ Bn, a.tmps.getD p undef = .pointer (some ⟨Bn, 0, none⟩) ∧ K Bn ∧ Room5 w Bn 27 ∧ (execOp a.eval o).run P w = .ok .skip (set5W w Bn (r i))) :
    FlowStep3 P Q (items3 K L) st (Stored3 K r) (EnvB w0 N env rooms) ps a0 ops i o :=
  flow3_store hd fun a w hF => by
    obtain ⟨hw, Bn, hu, hk, hroom, hr⟩ := h a w hF
    refine ⟨hw, _, hr, hF.base.set (hK ▸ hk) _, items3_set hpl Bn _, fun j oj hj hoj hn hM => ?_, by simp [set5W, World.setCell], by rw [hst]; exact ⟨Bn, hu, hk, set5W_same hroom⟩⟩
    obtain ⟨C, hC, hkC, hb⟩ := hM
    refine ⟨C, hC, hkC, set5W_other hb ?_⟩
    intro e
    subst e
    obtain ⟨h1, h2⟩ := hap j oj hj hoj hn
    rcases hp with hp | hp
    · exact (hF.ptrs p hp _ hu).2 (st j) h1 h2 hC
    · exact hp j oj hj hoj hn
end
/-- what a row of elements, all right, is to 'right' -/
def rightB (a : Fe) : Bool := decide (a.x0 < 4503599627370496 ∧ a.x1 < 4503599627370496 ∧ a.x2 < 4503599627370496 ∧ a.x3 < 4503599627370496 ∧ a.x4 < 4503599627370496)
theorem rightB_is {a : Fe} (h : a.Ok) : rightB a = true ↔ a.Right := by
  unfold rightB
  rw [decide_eq_true_iff]
  obtain ⟨n0, n1, n2, n3, n4, _, _, _, _, _⟩ := h
  exact ⟨fun ⟨a, b, c, d, e⟩ => ⟨n0, n1, n2, n3, n4, a, b, c, d, e⟩, fun h => ⟨h.l0, h.l1, h.l2, h.l3, h.l4⟩⟩
theorem fesL_get (L : List Fe) (k i : Nat) (hk : k < L.length) (hi : i < 5) : (fesL L)[5 * k + i]? = some (.int .u64 ((L.getD k Fe.zeroF).at i)) := by
  induction L generalizing k with
  | nil => simp at hk
  | cons x r ih =>
    cases k with
    | zero =>
      show (feL x ++ fesL r)[5 * 0 + i]? = _
      rw [List.getElem?_append_left (by show 5 * 0 + i < 5; omega)]
      obtain rfl | rfl | rfl | rfl | rfl : i = 0 ∨ i = 1 ∨ i = 2 ∨ i = 3 ∨ i = 4 := by omega
      all_goals rfl
    | succ k =>
      show (feL x ++ fesL r)[5 * (k + 1) + i]? = _
      rw [List.getElem?_append_right (by show 5 ≤ _; omega), show 5 * (k + 1) + i - (feL x).length = 5 * k + i by show 5 * (k + 1) + i - 5 = _; omega]
      exact ih k (by simpa using hk)
end Go.Proofs.YtcmnecnbcohaeaaGreatDoor

/- The law's is: an element held against the document's number. -/
namespace Go.Proofs.YtcmnecnbcohaeaaGreatDoor
open Go.RowKit Ns Ow
namespace Nr
theorem info_elem5 : (Tryz.prog.info? 27).map (·.size) = some 5 := by kernel_rfl
/-- an element's limbs -/
def feN (a : Fe) : List Nat := [a.x0.toNat, a.x1.toNat, a.x2.toNat, a.x3.toNat, a.x4.toNat]
theorem feN_v {a : Fe} (h : a.Ok) : a.v = .agg (pL (feN a)).toArray := by
  obtain ⟨n0, n1, n2, n3, n4, _, _, _, _, _⟩ := h
  unfold Fe.v feN pL pV
  simp
  omega
theorem feN_V {a : Fe} (h : a.Ok) : ((limbsV (feN a) : Nat) : Int) = a.V := by
  obtain ⟨n0, n1, n2, n3, n4, _, _, _, _, _⟩ := h
  unfold feN Fe.V
  simp only [limbsV]
  omega
theorem feN_m {a : Fe} (h : a.Ok) : num (limbsV (feN a)) = num a.m := by
  have := feN_V h
  have hm : a.m = limbsV (feN a) % Fe.P := by
    unfold Fe.m
    rw [← this, ← Int.natCast_emod, Int.toNat_natCast]
  rw [hm]
  apply num_congr
  show _ = limbsV (feN a) % Fe.P % (2 ^ 255 - 19)
  have hp : Fe.P = 2 ^ 255 - 19 := by decide
  rw [hp, Nat.mod_mod]
theorem feN_all {a : Fe} : (feN a).all (fun n => decide (n < 4503599627370496)) = (decide (a.x0.toNat < 4503599627370496) && (decide (a.x1.toNat < 4503599627370496) && (decide (a.x2.toNat < 4503599627370496) && (decide (a.x3.toNat < 4503599627370496) && (decide (a.x4.toNat < 4503599627370496)))))) := by
  simp [feN]
theorem feN_right {a : Fe} (h : a.Right) : (feN a).all (fun n => decide (n < 4503599627370496)) = true := by
  rw [feN_all]
  have := h.l0; have := h.l1; have := h.l2; have := h.l3; have := h.l4
  simp only [Bool.and_eq_true, decide_eq_true_eq]
  omega
theorem feN_lt {a : Fe} (h : a.Right) (j : Nat) : (feN a).getD j 0 < 4503599627370496 := by
  have := h.l0; have := h.l1; have := h.l2; have := h.l3; have := h.l4
  rcases j with _ | _ | _ | _ | _ | j
  · show a.x0.toNat < _; omega
  · show a.x1.toNat < _; omega
  · show a.x2.toNat < _; omega
  · show a.x3.toNat < _; omega
  · show a.x4.toNat < _; omega
  · show (0 : Nat) < _; omega
/-- the bytes of a value's parts -/
theorem byL_parts (n : Nat) : ∀ v : Nat, byL (parts n v) = (List.range (2 * n)).map fun i => v / 256 ^ i % 256 := by
  induction n with
  | zero => intro v; rfl
  | succ n ih =>
    intro v
    rw [parts, byL, ih, show 2 * (n + 1) = (2 * n + 1) + 1 by omega, List.range_succ_eq_map, List.map_cons, List.range_succ_eq_map, List.map_cons, List.map_cons, List.map_map, List.map_map]
    congr 1
    · simp
      first | done | omega
    · congr 1
      · simp
        first | done | omega
      · apply List.map_congr_left
        intro i _
        show v / 65536 / 256 ^ i % 256 = v / 256 ^ (i + 1 + 1) % 256
        rw [Nat.div_div_eq_div_mul, Nat.pow_succ, Nat.pow_succ, Nat.mul_assoc, Nat.mul_comm (256 ^ i)]
theorem bytesV_is (v : Nat) (h : v < 2 ^ 255 - 19) : bytesV (v : Int) = (byL (num v)).map u8N := by
  unfold num bytesV
  rw [Nat.mod_eq_of_lt h, byL_parts, List.map_map]
  apply List.map_congr_left
  intro i _
  show Value.int .u8 ((v : Int) / 2 ^ (8 * i) % 256) = Value.int .u8 ((v / 256 ^ i % 256 : Nat) : Int)
  rw [Int.natCast_emod, Int.natCast_ediv, Int.natCast_pow, show (256 : Nat) = 2 ^ 8 by decide, Int.pow_mul]
  rfl
theorem num_bytes (v i : Nat) : (byL (num v)).getD i 0 < 256 := by
  unfold num
  rw [byL_parts, List.getD_eq_getElem?_getD, List.getElem?_map]
  by_cases hi : i < 2 * 16
  · rw [List.getElem?_range hi]; exact Nat.mod_lt _ (by decide)
  · rw [List.getElem?_eq_none (by rw [List.length_range]; omega)]; show (0 : Nat) < 256; decide
theorem num_bytes_len (v : Nat) : (byL (num v)).length = 32 := by rw [byL_len, num_len]
set_option maxHeartbeats 1000000 in
theorem same_row (p : List Nat) (a1 a2 : Option Addr) (c1 c2 B1 B2 : Nat) (w : World) (h1 : BytesAt w B1 a1 c1 p) (h2 : BytesAt w B2 a2 c2 p) :
    Calls Tryz.prog 11 #[.slice a1 p.length c1, .slice a2 p.length c2] w fun e w' => e = .returned (.bool true) ∧ w.grownBy w' none := by
  have hp1 := h1.fits
  have hc1 := h1.top
  have H1 := Lib.hid h1; clear h1
  have H2 := Lib.hid h2; clear h2
  go_enter Tryz.func11, Tryz.ntmps11
  go_wp2
  go_loopw [5] (fun i wr => ∃ k j : Nat, k ≤ p.length ∧ i = .int .i64 k ∧ wr = w.drewN j) (fun i _ => p.length - (intOf i).toNat)
  case atStart => exact ⟨0, 0, by omega, rfl, rfl⟩
  case round =>
    obtain ⟨k, j, hk, rfl, rfl⟩ := hrel
    by_cases hlt : k < p.length
    · obtain ⟨pb, po, rfl, _, hc⟩ := H1.out.cells.resolve_left (by omega)
      obtain ⟨qb, qo, rfl, _, hd⟩ := H2.out.cells.resolve_left (by omega)
      have k1 := hc k hlt
      have k2 := hd k hlt
      unfold u8N at k1 k2
      clear hc hd
      generalize p.getD k 0 = x at *
      have i0 : (k : Int) < (p.length : Int) := by omega
      go_wp2_with fail
      go_quiet (fail)
      go_wp2
      go_roundw
      case rel => exact ⟨k + 1, _, by omega, by go_num, rfl⟩
      case measure => simp [intOf]; omega
    · obtain rfl : k = p.length := by omega
      clear hlt
      go_wp2
      go_ret
      exact ⟨rfl, gb_drewN (gb_refl _ _) _⟩
theorem n_eqItems {P : Program} (w : World) (d : Nat) {e : TypeId} {k : IntKind} (he : P.plainKey e = true) (hu : P.underlying e = some (.int k)) (f g : Nat → Int) (xs ys : Array Value) (is : List Nat)
    (hx : ∀ i ∈ is, xs[i * 1]? = some (.int k (f i))) (hy : ∀ i ∈ is, ys[i * 1]? = some (.int k (g i))) : (Op.eqItems (d + 1) e 1 xs ys is).run P w = .ok (is.all fun i => f i == g i) w := by
  induction is with
  | nil => simp [Op.eqItems]
  | cons i r ih =>
    have h1 := run_part_plain w he (hx i (List.mem_cons_self ..))
    have h2 := run_part_plain w he (hy i (List.mem_cons_self ..))
    simp only [Op.eqItems, Sem.run_bind, h1, h2, Result.andThen_ok, run_equalIn_int w d e k k (f i) (g i) hu, List.all_cons]
    cases hfg : f i == g i
    · simp
    · simpa using ih (fun j hj => hx j (List.mem_cons_of_mem _ hj)) (fun j hj => hy j (List.mem_cons_of_mem _ hj))
theorem eql_N (l m : List Nat) (hl : l.length = 16) (hm : m.length = 16) (w : World) : (binOp .eql 31 (nV l) (nV m)).run Tryz.prog w = .ok (.bool (decide (l = m))) w := by
  obtain ⟨j, hj⟩ : ∃ i, Tryz.prog.info? 25 = some i := by
    cases h : Tryz.prog.info? 25 with
    | none => exact absurd h (by have : (Tryz.prog.info? 25).isSome = true := by kernel_rfl
                                 intro e; rw [e] at this; cases this)
    | some i => exact ⟨i, rfl⟩
  have hc : Tryz.prog.cellsOf 25 = 1 := by kernel_rfl
  have hg : ∀ (q : List Nat), q.length = 16 → ∀ i ∈ List.range 16, (pL q).toArray[i * 1]? = some (.int .u64 ((q.getD i 0 : Nat) : Int)) := fun q hq i hi => by
    rw [Nat.mul_one, List.getElem?_toArray]
    exact pL_get q i (by have := List.mem_range.1 hi; omega)
  unfold nV
  rw [run_eql_struct, run_equalIn_array w 9999 _ _ Tryz.underlying31 hj, hc,
    n_eqItems w 9998 (by kernel_rfl) Tryz.underlying25 (fun i => ((l.getD i 0 : Nat) : Int)) (fun i => ((m.getD i 0 : Nat) : Int)) _ _ _ (hg l hl) (hg m hm)]
  have e : ((List.range 16).all fun i => ((l.getD i 0 : Nat) : Int) == ((m.getD i 0 : Nat) : Int)) = decide (l = m) := by
    rw [Bool.eq_iff_iff, List.all_eq_true, decide_eq_true_iff]
    constructor
    · intro h
      apply List.ext_getElem (by rw [hl, hm])
      intro i h1 h2
      have := h i (List.mem_range.2 (by omega))
      rw [beq_iff_eq, List.getD_eq_getElem?_getD, List.getD_eq_getElem?_getD, List.getElem?_eq_getElem h1, List.getElem?_eq_getElem h2] at this
      have h3 : ((l[i] : Nat) : Int) = ((m[i] : Nat) : Int) := by simpa using this
      omega
    · rintro rfl i _
      simp
  rw [← e]
  rfl
theorem guard_N (op : BinOp) (x y : Operand) (l m : List Nat) (w : World) : (eqGuard op 31 x y (nV l) (nV m)).run Tryz.prog w = .ok () w := by
  have h : Tryz.prog.eqGuardType Tryz.prog.depth 31 = false := by kernel_rfl
  unfold eqGuard nV
  cases op <;> simp [h]
theorem run_eqN {ρ : Operand → Value} {o : Oper} {w : World} {x y : Operand} {t : TypeId} {l m : List Nat} (ho : o.op = .binOp .eql 31 x y t) (hx : ρ x = nV l) (hy : ρ y = nV m) (hl : l.length = 16) (hm : m.length = 16) : (execOp ρ o).run Tryz.prog w = .ok (.value (.bool (decide (l = m)))) w := by
  unfold execOp
  simp only [ho, hx, hy, Sem.run_bind, guard_N, eql_N l m hl hm, Result.andThen_ok, Sem.run_pure]
theorem put_out (a : Fe) (w : World) (ha : a.Ok) : Calls Tryz.prog 12 #[.agg (pL (feN a)).toArray] w (YOut w (byL (num a.m))) := by
  rw [← feN_v ha]
  refine (put_any a w ha).mono ?_
  rintro e w' ⟨NB, rfl, hg, _, hb⟩
  have hm : a.m < 2 ^ 255 - 19 := by
    have hp : Fe.P = 2 ^ 255 - 19 := by decide
    have h0 : (0 : Int) < (Fe.P : Int) := by rw [hp]; decide
    have := Int.emod_lt_of_pos a.V h0
    have h1 := Int.emod_nonneg a.V (Int.ne_of_gt h0)
    unfold Fe.m
    rw [← hp]
    omega
  rw [bytesV_is a.m hm] at hb
  exact ⟨some ⟨NB, 0, none⟩, 32, by rw [num_bytes_len], hg, blk_bytes (tl := []) (by rw [List.append_nil]; exact hb) rfl (by rw [num_bytes_len]; omega) (by omega) (num_bytes a.m) hb.lt (Nat.le_refl _)⟩
theorem bytes_out (v : Nat) (w : World) : Calls Tryz.prog 31 #[nV (num v)] w (YOut w (byL (num v))) := by
  refine (bytes_any (num v) w (num_whole v) (num_len v)).mono ?_
  rintro e w' ⟨g, c, rfl, hg, ho⟩
  obtain ⟨g', c', e, _, hcc, hcm, hlt⟩ := own_some ho (by decide)
  cases e
  refine ⟨some ⟨g, 0, none⟩, c, by rw [num_bytes_len], hg, Nat.le_refl _, by rw [num_bytes_len]; exact hcc, by unfold maxLen at hcm; omega, num_bytes v, Or.inr ⟨g, 0, rfl, hlt, fun i hi => ?_⟩⟩
  rw [Nat.zero_add]
  exact own_cell ho (u8_getD hi)
set_option maxRecDepth 100000 in
set_option maxHeartbeats 4000000 in
theorem is_yes (a : Fe) (v : Nat) (w0 : World) (ha : a.Right) (hv : num a.m = num v) : Calls Tryz.prog 10 #[a.v, nV (num v)] w0 fun e w' => e = .returned (.bool true) ∧ w0.grownBy w' none := by
  have hok := ha.ok
  rw [← hv]
  have c1 := fun w => right_any (feN a) w rfl (fun j => Nat.lt_trans (feN_lt ha j) (by decide))
  rw [feN_right ha] at c1
  have c2 := fun w => from_any (feN a) w rfl (feN_lt ha)
  rw [feN_m hok] at c2
  have c3 := fun w => eql_N (num a.m) (num a.m) (num_len _) (num_len _) w
  have c4 := fun w => put_out a w hok
  have c5 := fun w => bytes_out a.m w
  rw [feN_v hok]
  have hE5 : (feN a).length = 5 := rfl
  have hl : (num a.m).length = 16 := num_len _
  rw [decide_eq_true (rfl : num a.m = num a.m)] at c3
  obtain ⟨L, hL⟩ : ∃ L, L = byL (num a.m) := ⟨_, rfl⟩
  rw [← hL] at c4 c5
  have HL := Lib.hid hL; clear hL
  generalize num a.m = l at *
  generalize feN a = E at *
  have HC := Lib.hid (And.intro c1 (And.intro c2 (And.intro c3 (And.intro c4 c5)))); clear c1 c2 c3 c4 c5 hv ha hok
  clear HL
  unfold nV
  go_enter Tryz.func10, Tryz.ntmps10
  go_upto_region 1 with (fail)
  have b1 := (Blk.new w0 (pL E) 27).alloc (.cells (pL l).toArray 31)
  have b2 := new (w := w0.alloc (.cells (pL E).toArray 27)) (B := w0.heap.size + 1) (by simp) l
  have g2 := gb_alloc (gb_alloc (gb_refl w0 none) (.cells (pL E).toArray 27)) (.cells (pL l).toArray 31)
  revert g2; revert b2; revert b1
  generalize (w0.alloc (.cells (pL E).toArray 27)).alloc (.cells (pL l).toArray 31) = w2
  intro b1 b2 g2
  have H2 := Lib.hid (And.intro g2 (And.intro b1 b2)); clear g2 b1 b2
  refine Fg.region_t [] [.any, .any, .any, .any, .any, .val (Value.agg (pL E).toArray), .val (Value.bool true), .val (Value.bool true), .val (Value.agg (pL E).toArray), .val (nV l), .val (nV l), .val (Value.bool true), .val (Value.bool true), .val (Value.bool true), .val (Value.agg (pL E).toArray), Fg.It.by L, .val (nV l), Fg.It.by L, .val (Value.bool true), .val (Value.bool true)] w2 15 (gb_refl _ _) (by kernel_rfl) (by kernel_rfl) (by kernel_rfl) (by kernel_rfl) (by decide) (by kernel_rfl) ?_ ?_
  · refine ⟨Fg.vT rfl (by decide) fun ac w h => ?_, ?_⟩
    · have e2 : ac.tmps.getD 2 undef = Value.pointer (some ⟨w0.heap.size, 0, none⟩) := h.rest 2 (by kernel_rfl)
      refine ⟨.agg (pL E).toArray, w, wants_none rfl, ?_, gb_refl _ _, rfl⟩
      exact Fg.run_load rfl e2 ((H2.out.2.1.grown h.base (by simp)).range 0 (pL E) (by rw [List.drop_zero, List.take_length])) Tryz.underlying27 rfl (by rw [pL_len, hE5]; exact info_elem5)
    refine ⟨Fg.cT rfl (by decide) fun ac w h => ?_, ?_⟩
    · have e5 : ac.tmps.getD 5 undef = Value.agg (pL E).toArray := h.dep 5 (by kernel_rfl)
      refine ⟨29, #[Value.agg (pL E).toArray], wants_none rfl, Fg.run_call rfl rfl (by simp only [List.map_toArray, List.map_cons, List.map_nil, Act.eval, e5]) (Fg.run_enter Tryz.func29 (by kernel_rfl) (by kernel_rfl)), ?_⟩
      exact (HC.out.1 w).mono fun _ _ ⟨he, hg⟩ => ⟨_, he, hg, rfl⟩
    refine ⟨Fg.vT rfl (by decide) fun ac w h => ?_, ?_⟩
    · have e6 : ac.tmps.getD 6 undef = Value.bool true := h.dep 6 (by kernel_rfl)
      exact ⟨_, w, wants_none rfl, Fg.run_move rfl e6, gb_refl _ _, rfl⟩
    refine ⟨Fg.vT rfl (by decide) fun ac w h => ?_, ?_⟩
    · have e7 : ac.tmps.getD 7 undef = Value.bool true := h.dep 7 (by kernel_rfl)
      have e2 : ac.tmps.getD 2 undef = Value.pointer (some ⟨w0.heap.size, 0, none⟩) := h.rest 2 (by kernel_rfl)
      refine ⟨.agg (pL E).toArray, w, wants_some (d := 7) rfl rfl (by rw [h.size]; show 7 < 20; decide) e7, ?_, gb_refl _ _, rfl⟩
      exact Fg.run_load rfl e2 ((H2.out.2.1.grown h.base (by simp)).range 0 (pL E) (by rw [List.drop_zero, List.take_length])) Tryz.underlying27 rfl (by rw [pL_len, hE5]; exact info_elem5)
    refine ⟨Fg.cT rfl (by decide) fun ac w h => ?_, ?_⟩
    · have e7 : ac.tmps.getD 7 undef = Value.bool true := h.dep 7 (by kernel_rfl)
      have e8 : ac.tmps.getD 8 undef = Value.agg (pL E).toArray := h.dep 8 (by kernel_rfl)
      refine ⟨30, #[Value.agg (pL E).toArray], wants_some (d := 7) rfl rfl (by rw [h.size]; show 7 < 20; decide) e7, Fg.run_call rfl rfl (by simp only [List.map_toArray, List.map_cons, List.map_nil, Act.eval, e8]) (Fg.run_enter Tryz.func30 (by kernel_rfl) (by kernel_rfl)), ?_⟩
      exact (HC.out.2.1 w).mono fun _ _ ⟨he, hg⟩ => ⟨_, he, hg, rfl⟩
    refine ⟨Fg.vT rfl (by decide) fun ac w h => ?_, ?_⟩
    · have e7 : ac.tmps.getD 7 undef = Value.bool true := h.dep 7 (by kernel_rfl)
      have e3 : ac.tmps.getD 3 undef = Value.pointer (some ⟨w0.heap.size + 1, 0, none⟩) := h.rest 3 (by kernel_rfl)
      refine ⟨nV l, w, wants_some (d := 7) rfl rfl (by rw [h.size]; show 7 < 20; decide) e7, ?_, gb_refl _ _, rfl⟩
      exact ld rfl e3 (H2.out.2.2.grown h.base (by simp)) hl rfl rfl
    refine ⟨Fg.vT rfl (by decide) fun ac w h => ?_, ?_⟩
    · have e7 : ac.tmps.getD 7 undef = Value.bool true := h.dep 7 (by kernel_rfl)
      have e9 : ac.tmps.getD 9 undef = nV l := h.dep 9 (by kernel_rfl)
      have e10 : ac.tmps.getD 10 undef = nV l := h.dep 10 (by kernel_rfl)
      refine ⟨.bool true, w, wants_some (d := 7) rfl rfl (by rw [h.size]; show 7 < 20; decide) e7, ?_, gb_refl _ _, rfl⟩
      rw [run_eqN rfl e9 e10 hl hl, decide_eq_true rfl]
    refine ⟨Fg.vT rfl (by decide) fun ac w h => ?_, ?_⟩
    · have e7 : ac.tmps.getD 7 undef = Value.bool true := h.dep 7 (by kernel_rfl)
      have e11 : ac.tmps.getD 11 undef = Value.bool true := h.dep 11 (by kernel_rfl)
      refine ⟨Value.bool true, w, wants_none rfl, ?_, gb_refl _ _, rfl⟩
      clear h
      simp only [execOp, Act.eval, e7, e11]
      go_simp
    refine ⟨Fg.vT rfl (by decide) fun ac w h => ?_, ?_⟩
    · have e12 : ac.tmps.getD 12 undef = Value.bool true := h.dep 12 (by kernel_rfl)
      exact ⟨_, w, wants_none rfl, Fg.run_move rfl e12, gb_refl _ _, rfl⟩
    refine ⟨Fg.vT rfl (by decide) fun ac w h => ?_, ?_⟩
    · have e13 : ac.tmps.getD 13 undef = Value.bool true := h.dep 13 (by kernel_rfl)
      have e2 : ac.tmps.getD 2 undef = Value.pointer (some ⟨w0.heap.size, 0, none⟩) := h.rest 2 (by kernel_rfl)
      refine ⟨.agg (pL E).toArray, w, wants_some (d := 13) rfl rfl (by rw [h.size]; show 13 < 20; decide) e13, ?_, gb_refl _ _, rfl⟩
      exact Fg.run_load rfl e2 ((H2.out.2.1.grown h.base (by simp)).range 0 (pL E) (by rw [List.drop_zero, List.take_length])) Tryz.underlying27 rfl (by rw [pL_len, hE5]; exact info_elem5)
    refine ⟨Fg.cT rfl (by decide) fun ac w h => ?_, ?_⟩
    · have e13 : ac.tmps.getD 13 undef = Value.bool true := h.dep 13 (by kernel_rfl)
      have e14 : ac.tmps.getD 14 undef = Value.agg (pL E).toArray := h.dep 14 (by kernel_rfl)
      refine ⟨12, #[Value.agg (pL E).toArray], wants_some (d := 13) rfl rfl (by rw [h.size]; show 13 < 20; decide) e13, Fg.run_call rfl rfl (by simp only [List.map_toArray, List.map_cons, List.map_nil, Act.eval, e14]) (Fg.run_enter Tryz.func12 (by kernel_rfl) (by kernel_rfl)), ?_⟩
      exact (HC.out.2.2.2.1 w).mono fun _ _ ⟨_, _, he, hg, hb⟩ => ⟨_, he, hg, _, _, _, rfl, hb⟩
    refine ⟨Fg.vT rfl (by decide) fun ac w h => ?_, ?_⟩
    · have e13 : ac.tmps.getD 13 undef = Value.bool true := h.dep 13 (by kernel_rfl)
      have e3 : ac.tmps.getD 3 undef = Value.pointer (some ⟨w0.heap.size + 1, 0, none⟩) := h.rest 3 (by kernel_rfl)
      refine ⟨nV l, w, wants_some (d := 13) rfl rfl (by rw [h.size]; show 13 < 20; decide) e13, ?_, gb_refl _ _, rfl⟩
      exact ld rfl e3 (H2.out.2.2.grown h.base (by simp)) hl rfl rfl
    refine ⟨Fg.cT rfl (by decide) fun ac w h => ?_, ?_⟩
    · have e13 : ac.tmps.getD 13 undef = Value.bool true := h.dep 13 (by kernel_rfl)
      have e16 : ac.tmps.getD 16 undef = nV l := h.dep 16 (by kernel_rfl)
      refine ⟨31, #[nV l], wants_some (d := 13) rfl rfl (by rw [h.size]; show 13 < 20; decide) e13, Fg.run_call rfl rfl (by simp only [List.map_toArray, List.map_cons, List.map_nil, Act.eval, e16]) (Fg.run_enter Tryz.func31 (by kernel_rfl) (by kernel_rfl)), ?_⟩
      exact (HC.out.2.2.2.2 w).mono fun _ _ ⟨_, _, he, hg, hb⟩ => ⟨_, he, hg, _, _, _, rfl, hb⟩
    refine ⟨Fg.cT rfl (by decide) fun ac w h => ?_, ?_⟩
    · have e13 : ac.tmps.getD 13 undef = Value.bool true := h.dep 13 (by kernel_rfl)
      obtain ⟨a15, k15, B15, e15, b15⟩ : ∃ xa xc xB, ac.tmps.getD 15 undef = .slice xa L.length xc ∧ BytesAt w xB xa xc L := h.dep 15 (by kernel_rfl)
      obtain ⟨a17, k17, B17, e17, b17⟩ : ∃ xa xc xB, ac.tmps.getD 17 undef = .slice xa L.length xc ∧ BytesAt w xB xa xc L := h.dep 17 (by kernel_rfl)
      refine ⟨11, #[Value.slice a15 L.length k15, Value.slice a17 L.length k17], wants_some (d := 13) rfl rfl (by rw [h.size]; show 13 < 20; decide) e13, Fg.run_call rfl rfl (by simp only [List.map_toArray, List.map_cons, List.map_nil, Act.eval, e15, e17]) (Fg.run_enter Tryz.func11 (by kernel_rfl) (by kernel_rfl)), ?_⟩
      exact (same_row L a15 a17 k15 k17 _ _ w b15 b17).mono fun _ _ ⟨he, hg⟩ => ⟨_, he, hg, rfl⟩
    refine ⟨Fg.vT rfl (by decide) fun ac w h => ?_, ?_⟩
    · have e13 : ac.tmps.getD 13 undef = Value.bool true := h.dep 13 (by kernel_rfl)
      have e18 : ac.tmps.getD 18 undef = Value.bool true := h.dep 18 (by kernel_rfl)
      refine ⟨Value.bool true, w, wants_none rfl, ?_, gb_refl _ _, rfl⟩
      clear h
      simp only [execOp, Act.eval, e13, e18]
      go_simp
    trivial
  · intro aq wq hB hsz hdf hrest hslots hpt
    obtain ⟨u5, e5⟩ : ∃ u, aq.tmps.getD 5 undef = u := ⟨_, rfl⟩
    obtain ⟨u6, e6⟩ : ∃ u, aq.tmps.getD 6 undef = u := ⟨_, rfl⟩
    obtain ⟨u7, e7⟩ : ∃ u, aq.tmps.getD 7 undef = u := ⟨_, rfl⟩
    obtain ⟨u8, e8⟩ : ∃ u, aq.tmps.getD 8 undef = u := ⟨_, rfl⟩
    obtain ⟨u9, e9⟩ : ∃ u, aq.tmps.getD 9 undef = u := ⟨_, rfl⟩
    obtain ⟨u10, e10⟩ : ∃ u, aq.tmps.getD 10 undef = u := ⟨_, rfl⟩
    obtain ⟨u11, e11⟩ : ∃ u, aq.tmps.getD 11 undef = u := ⟨_, rfl⟩
    obtain ⟨u12, e12⟩ : ∃ u, aq.tmps.getD 12 undef = u := ⟨_, rfl⟩
    obtain ⟨u13, e13⟩ : ∃ u, aq.tmps.getD 13 undef = u := ⟨_, rfl⟩
    obtain ⟨u14, e14⟩ : ∃ u, aq.tmps.getD 14 undef = u := ⟨_, rfl⟩
    obtain ⟨u15, e15⟩ : ∃ u, aq.tmps.getD 15 undef = u := ⟨_, rfl⟩
    obtain ⟨u16, e16⟩ : ∃ u, aq.tmps.getD 16 undef = u := ⟨_, rfl⟩
    obtain ⟨u17, e17⟩ : ∃ u, aq.tmps.getD 17 undef = u := ⟨_, rfl⟩
    obtain ⟨u18, e18⟩ : ∃ u, aq.tmps.getD 18 undef = u := ⟨_, rfl⟩
    have e19 : aq.tmps.getD 19 undef = Value.bool true := hslots 19 (by kernel_rfl)
    obtain rfl := Fg.frame_is (a := aq) (vs := [Value.agg (pL E).toArray, Value.agg (pL l).toArray, Value.pointer (some ⟨w0.heap.size, 0, none⟩), Value.pointer (some ⟨w0.heap.size + 1, 0, none⟩), Value.bool false, u5, u6, u7, u8, u9, u10, u11, u12, u13, u14, u15, u16, u17, u18, Value.bool true]) hsz ⟨hrest 0 (by kernel_rfl), hrest 1 (by kernel_rfl), hrest 2 (by kernel_rfl), hrest 3 (by kernel_rfl), hrest 4 (by kernel_rfl), e5, e6, e7, e8, e9, e10, e11, e12, e13, e14, e15, e16, e17, e18, e19, trivial⟩ hdf
    clear hsz hdf hrest hslots hpt e5 e6 e7 e8 e9 e10 e11 e12 e13 e14 e15 e16 e17 e18 e19
    refine Fg.wpl_value (v := .bool true) (w' := wq) rfl (Fg.run_assign rfl rfl) ?_
    refine wpList_nil ?_
    simp only [Act.put, List.setIfInBounds_toArray, List.set_cons_succ, List.set_cons_zero]
    have HF := Lib.hid (gb_trans H2.out.1 hB); clear hB
    go_wp2
    go_ret
    exact ⟨rfl, HF.out⟩
end Nr
end Go.Proofs.YtcmnecnbcohaeaaGreatDoor

/- field: what the program's elements stand for: powers, what is inverted, roots. -/
namespace Go.Proofs.YtcmnecnbcohaeaaGreatDoor
open Fe Num

/-- r is right, and stands for a's number to the power k -/
structure Pw (a r : Fe) (k : Nat) : Prop where
  ri : Right r
  mi : Fe.m r = Fe.m a ^ k % P
theorem Pw.one {a : Fe} (h : Right a) : Pw a a 1 := ⟨h, by rw [Nat.pow_one, Nat.mod_eq_of_lt (m_lt a)]⟩
theorem Pw.mul {a r s : Fe} {k j : Nat} (h : Pw a r k) (g : Pw a s j) : Pw a (mulF r s) (k + j) :=
  ⟨mul_right _ _, by rw [mul_m h.ri g.ri, h.mi, g.mi, ← Nat.mul_mod, Nat.pow_add]⟩
theorem Pw.sq {a r : Fe} {k : Nat} (h : Pw a r k) : Pw a (sqF r) (2 * k) :=
  ⟨sq_right _, by rw [sq_m h.ri, h.mi, ← Nat.mul_mod, ← Nat.pow_add, show k + k = 2 * k by omega]⟩
theorem Pw.sqN {a r : Fe} {k : Nat} (h : Pw a r k) (n : Nat) : Pw a (sqN n r) (2 ^ n * k) := by
  induction n with
  | zero => rw [Nat.pow_zero, Nat.one_mul]; exact h
  | succ n ih => have := ih.sq; rw [← Nat.mul_assoc, ← Nat.pow_succ'] at this; exact this
theorem Pw.step {a r s : Fe} {k j : Nat} (h : Pw a r k) (g : Pw a s j) (n : Nat) : Pw a (stepF n r s) (2 ^ n * k + j) := (h.sqN n).mul g
theorem Pw.to {a r : Fe} {k j : Nat} (h : Pw a r k) (e : k = j) : Pw a r j := e ▸ h
theorem ones_pw {a : Fe} (h : Right a) : Pw a (ones10 a) (2 ^ 250 - 1) := by
  have p1 : Pw a (ones1 a) 3 := ((Pw.one h).step (Pw.one h) 1).to (by decide)
  have p2 : Pw a (ones2 a) 15 := (p1.step p1 2).to (by decide)
  have p3 : Pw a (ones3 a) 31 := (p2.step (Pw.one h) 1).to (by decide)
  have p4 : Pw a (ones4 a) 1023 := (p3.step p3 5).to (by decide)
  have p5 : Pw a (ones5 a) (2 ^ 20 - 1) := (p4.step p4 10).to (by decide)
  have p6 : Pw a (ones6 a) (2 ^ 40 - 1) := (p5.step p5 20).to (by decide)
  have p7 : Pw a (ones7 a) (2 ^ 50 - 1) := (p6.step p4 10).to (by decide)
  have p8 : Pw a (ones8 a) (2 ^ 100 - 1) := (p7.step p7 50).to (by decide)
  have p9 : Pw a (ones9 a) (2 ^ 200 - 1) := (p8.step p8 100).to (by decide)
  exact (p9.step p7 50).to (by decide)
theorem inv_pw {a : Fe} (h : Right a) : Pw a (invF a) eInv := by
  have p := Pw.one h
  have e8 : Pw a (sqF (sqF (sqF a))) 8 := p.sq.sq.sq
  have e11 : Pw a (mulF (sqF (sqF (sqF a))) (mulF (sqF a) a)) 11 := e8.mul (p.sq.mul p)
  exact ((ones_pw h).step e11 5).to (by decide +kernel)
theorem inv_right (a : Fe) : Right (invF a) := mul_right _ _
theorem inv_m {a : Fe} (h : Right a) : Fe.m a * Fe.m (invF a) % P = if Fe.m a = 0 then 0 else 1 := by
  rw [(inv_pw h).mi, inv_is, Nat.mod_eq_of_lt (m_lt a)]
theorem step_right (n : Nat) (p b : Fe) : Right (stepF n p b) := mul_right _ _
/-- a root's guess -/
theorem guess_m {u v : Fe} (hu : Right u) (hv : Right v) : Fe.m (guessF u v) = gN (Fe.m u) (Fe.m v) % P := by
  have hc : Fe.m (mulF (sqF v) v) = Fe.m v ^ 3 % P := ((Pw.one hv).sq.mul (Pw.one hv)).mi
  have h7 : Fe.m (mulF (sqF (mulF (sqF v) v)) v) = Fe.m v ^ 7 % P := ((((Pw.one hv).sq.mul (Pw.one hv)).sq).mul (Pw.one hv)).mi
  have hb : Fe.m (mulF u (mulF (sqF (mulF (sqF v) v)) v)) = Fe.m u * Fe.m v ^ 7 % P := by rw [mul_m hu (mul_right _ _), h7, Nat.mul_mod_mod]
  have hr := mul_right u (mulF (sqF (mulF (sqF v) v)) v)
  have hpw : Fe.m (stepF 2 (ones10 (mulF u (mulF (sqF (mulF (sqF v) v)) v))) (mulF u (mulF (sqF (mulF (sqF v) v)) v))) = (Fe.m u * Fe.m v ^ 7) ^ eEighth % P := by
    rw [(((ones_pw hr).step (Pw.one hr) 2).to (show 2 ^ 2 * (2 ^ 250 - 1) + 1 = eEighth by decide +kernel)).mi, hb, ← Nat.pow_mod]
  unfold guessF
  rw [mul_m (mul_right _ _) (step_right _ _ _), mul_m hu (mul_right _ _), hc, hpw]
  unfold gN
  rw [Nat.mul_mod_mod, Nat.mod_mul_mod]
  exact cong_mul (by rw [Nat.mul_mod_mod]) rfl
theorem guess_right (u v : Fe) : Right (guessF u v) := mul_right _ _
theorem rootI_right : Right rootI := by constructor <;> decide
theorem rootI_m : Fe.m rootI = i0 := by decide +kernel
/-- whether an element fits -/
def fitsF (r u v : Fe) : Bool := decide (Fe.m (mulF (sqF r) v) = Fe.m u)
theorem fitsF_is {r u v : Fe} (hr : Right r) (hv : Right v) : fitsF r u v = true ↔ Fe.m r * Fe.m r * Fe.m v % P = Fe.m u := by
  unfold fitsF
  rw [decide_eq_true_iff, mul_m (sq_right _) hv, sq_m hr, Nat.mod_mul_mod]
def evenF (r : Fe) : Fe := if Fe.m r % 2 = 1 then negF r else r
def rootF (u v : Fe) : Fe × Bool :=
  if fitsF (guessF u v) u v = true then (evenF (guessF u v), true)
  else if fitsF (mulF (guessF u v) rootI) u v = true then (evenF (mulF (guessF u v) rootI), true)
  else (zeroF, false)
theorem neg_m {a : Fe} (h : Right a) : Fe.m (negF a) = (P - Fe.m a) % P := by
  have hz : Right zeroF := by constructor <;> decide
  have e : Fe.m zeroF = 0 := by decide +kernel
  unfold negF
  rw [sub_m hz h, e, Nat.zero_add]
theorem even_m {r : Fe} (h : Right r) : Right (evenF r) ∧ Fe.m (evenF r) % 2 = 0 ∧ ∀ v : Nat, Fe.m (evenF r) * Fe.m (evenF r) * v % P = Fe.m r * Fe.m r * v % P := by
  unfold evenF
  have hl := m_lt r
  by_cases ho : Fe.m r % 2 = 1
  · rw [if_pos ho]
    have hm := neg_m h
    rw [Nat.mod_eq_of_lt (by omega)] at hm
    refine ⟨neg_right _, ?_, fun v => ?_⟩
    · rw [hm]; unfold P at *; omega
    · rw [hm]
      obtain ⟨d, hd⟩ : ∃ d, P = Fe.m r + d := ⟨P - Fe.m r, by omega⟩
      have e : (P - Fe.m r) * (P - Fe.m r) * v + P * (2 * Fe.m r * v) = Fe.m r * Fe.m r * v + P * (P * v) := by
        rw [hd, Nat.add_sub_cancel_left]; grind
      have := congrArg (· % P) e
      simpa [Nat.add_mul_mod_self_left] using this
  · rw [if_neg ho]
    exact ⟨h, by omega, fun _ => rfl⟩
theorem root_says {u v : Fe} (hv : Right v) (h : (rootF u v).2 = true) : Right (rootF u v).1 ∧ Fe.m (rootF u v).1 % 2 = 0 ∧ Fe.m (rootF u v).1 * Fe.m (rootF u v).1 * Fe.m v % P = Fe.m u := by
  unfold rootF at *
  by_cases h1 : fitsF (guessF u v) u v = true
  · rw [if_pos h1] at h ⊢
    have := even_m (guess_right u v)
    exact ⟨this.1, this.2.1, (this.2.2 _).trans ((fitsF_is (guess_right u v) hv).1 h1)⟩
  · rw [if_neg h1] at h ⊢
    by_cases h2 : fitsF (mulF (guessF u v) rootI) u v = true
    · rw [if_pos h2] at h ⊢
      have := even_m (mul_right _ _ : Right (mulF (guessF u v) rootI))
      exact ⟨this.1, this.2.1, (this.2.2 _).trans ((fitsF_is (mul_right _ _) hv).1 h2)⟩
    · rw [if_neg h2] at h; cases h
theorem fitsN_mod {r u v : Nat} : FitsN (r % P) u v ↔ FitsN r u v := by
  unfold FitsN
  rw [show r % P * (r % P) * v % P = r * r * v % P from by rw [Nat.mul_mod, ← Nat.mul_mod r r, ← Nat.mul_mod]]
theorem root_true {u v : Fe} (hu : Right u) (hv : Right v) (h : FitsN (gN (Fe.m u) (Fe.m v)) (Fe.m u) (Fe.m v) ∨ FitsN (gN (Fe.m u) (Fe.m v) * i0) (Fe.m u) (Fe.m v)) : (rootF u v).2 = true := by
  have hul := Nat.mod_eq_of_lt (m_lt u)
  unfold rootF
  by_cases h1 : fitsF (guessF u v) u v = true
  · rw [if_pos h1]
  · rw [if_neg h1]
    by_cases h2 : fitsF (mulF (guessF u v) rootI) u v = true
    · rw [if_pos h2]
    · exfalso
      rcases h with h | h
      · apply h1
        rw [fitsF_is (guess_right u v) hv, guess_m hu hv]
        have h2 := fitsN_mod.2 h
        unfold FitsN at h2
        rw [hul] at h2
        exact h2
      · apply h2
        rw [fitsF_is (mul_right _ _) hv, mul_m (guess_right u v) rootI_right, guess_m hu hv, rootI_m, Nat.mod_mul_mod]
        have h3 := fitsN_mod.2 h
        unfold FitsN at h3
        rw [hul] at h3
        exact h3
theorem root_any_true {u v : Fe} {t : Nat} (hu : Right u) (hv : Right v) (h : t * t * Fe.m v % P = Fe.m u) : (rootF u v).2 = true :=
  root_true hu hv (Fe.fits_any (by rw [h, Nat.mod_eq_of_lt (m_lt u)]))
def fe2 : Fe := ⟨2, 0, 0, 0, 0⟩
def fe4 : Fe := ⟨4, 0, 0, 0, 0⟩
theorem fe2_right : Right fe2 := by constructor <;> decide
theorem fe4_right : Right fe4 := by constructor <;> decide
theorem one_right : Right oneF := by constructor <;> decide
theorem zero_right : Right zeroF := by constructor <;> decide
theorem fe2_m : Fe.m fe2 = 2 := by decide +kernel
theorem fe4_m : Fe.m fe4 = 4 := by decide +kernel
theorem one_m : Fe.m oneF = 1 := by decide +kernel
theorem zero_m : Fe.m zeroF = 0 := by decide +kernel
theorem root4 : (rootF fe4 oneF).2 = true := root_any_true (t := 2) fe4_right one_right (by rw [fe4_m, one_m]; decide +kernel)
theorem root4_m : Fe.m (rootF fe4 oneF).1 = 2 := by
  obtain ⟨hr, he, hm⟩ := root_says one_right root4
  rw [fe4_m, one_m, Nat.mul_one] at hm
  have h := roots_two (v := 1) (r := Fe.m (rootF fe4 oneF).1) (a := 2) (by decide +kernel) (m_lt _) (by decide +kernel) (by rw [Nat.mul_one, hm]; decide +kernel)
  rcases h with h | h
  · exact h
  · exfalso
    rw [h] at he
    exact absurd he (by decide +kernel)
theorem root2 : (rootF fe2 oneF).2 = false := by
  rw [Bool.eq_false_iff]
  intro h
  obtain ⟨hr, he, hm⟩ := root_says one_right h
  rw [fe2_m, one_m, Nat.mul_one] at hm
  have h1 := square_half (x := 2) (s := Fe.m (rootF fe2 oneF).1) (by decide +kernel) (by rw [hm]; decide +kernel)
  rw [two_half] at h1
  exact absurd h1 (by decide +kernel)
theorem zero_pow_mod (x n : Nat) (hx : x = 0) (h : 0 < n) : x ^ n % P = 0 := by rw [hx, Nat.zero_pow h, Nat.zero_mod]
theorem eInv_pos : 0 < eInv := by decide +kernel
theorem inv0_m : Fe.m (invF zeroF) = 0 := (inv_pw zero_right).mi.trans (zero_pow_mod _ _ zero_m eInv_pos)
theorem negone_m : Fe.m (negF oneF) = 57896044618658097711785492504343953926634992332820282019728792003956564819948 := by
  rw [neg_m one_right, one_m]; decide +kernel
end Go.Proofs.YtcmnecnbcohaeaaGreatDoor

/- field: ofBytes, Get; and the law's small helpers. -/
namespace Go.Proofs.YtcmnecnbcohaeaaGreatDoor
open Go.RowKit

/-- an element of any number below 2^256: limbs of 51 bits, the highest one has the rest -/
def fromN (x : Int) : Fe := ⟨x % 2251799813685248, x / 2251799813685248 % 2251799813685248, x / 5070602400912917605986812821504 % 2251799813685248, x / 11417981541647679048466287755595961091061972992 % 2251799813685248, x / 25711008708143844408671393477458601640355247900524685364822016⟩
theorem fromN_V (x : Int) : Fe.V (fromN x) = x := by
  unfold fromN
  simp only [Fe.V]
  have e2 : x / 5070602400912917605986812821504 = x / 2251799813685248 / 2251799813685248 := by rw [Int.ediv_ediv_of_nonneg (by decide)]; rfl
  have e3 : x / 11417981541647679048466287755595961091061972992 = x / 2251799813685248 / 2251799813685248 / 2251799813685248 := by rw [Int.ediv_ediv_of_nonneg (by decide), Int.ediv_ediv_of_nonneg (by decide)]; rfl
  have e4 : x / 25711008708143844408671393477458601640355247900524685364822016 = x / 2251799813685248 / 2251799813685248 / 2251799813685248 / 2251799813685248 := by rw [Int.ediv_ediv_of_nonneg (by decide), Int.ediv_ediv_of_nonneg (by decide), Int.ediv_ediv_of_nonneg (by decide)]; rfl
  rw [e2, e3, e4]
  omega
theorem fromN_right {x : Int} (h0 : 0 ≤ x) (h1 : x < 2 ^ 256) : (fromN x).Right := by
  have e : (2 : Int) ^ 256 = 115792089237316195423570985008687907853269984665640564039457584007913129639936 := by decide
  rw [e] at h1
  unfold fromN
  constructor <;> dsimp only <;> omega
theorem fromN_m {x : Int} : (Fe.m (fromN x) : Int) = x % 57896044618658097711785492504343953926634992332820282019728792003956564819949 := by
  rw [Fe.m_cast, fromN_V]; rfl
theorem wordOf_shift (F : Nat → Int) (s : Nat) : ∀ k, wordOf F (s + k) = wordOf F s + wordOf (fun i => F (s + i)) k * 2 ^ (8 * s) := by
  intro k
  induction k with
  | zero => simp [wordOf]
  | succ k ih =>
    rw [show s + (k + 1) = s + k + 1 by omega, wordOf, ih, wordOf, Int.add_mul, show 8 * (s + k) = 8 * k + 8 * s by omega, Int.pow_add]
    rw [Int.mul_assoc (F (s + k)), ← Int.add_assoc]
theorem word4 (F : Nat → Int) : wordOf F 32 = wordOf F 8 + 18446744073709551616 * wordOf (fun i => F (8 + i)) 8 + 340282366920938463463374607431768211456 * wordOf (fun i => F (16 + i)) 8 + 6277101735386680763835789423207666416102355444464034512896 * wordOf (fun i => F (24 + i)) 8 := by
  have h1 := wordOf_shift F 24 8
  have h2 := wordOf_shift F 16 8
  have h3 := wordOf_shift F 8 8
  have p1 : (2 : Int) ^ (8 * 24) = 6277101735386680763835789423207666416102355444464034512896 := by decide
  have p2 : (2 : Int) ^ (8 * 16) = 340282366920938463463374607431768211456 := by decide
  have p3 : (2 : Int) ^ (8 * 8) = 18446744073709551616 := by decide
  rw [p1] at h1
  rw [p2] at h2
  rw [p3] at h3
  have e1 : wordOf F (24 + 8) = wordOf F 32 := rfl
  have e2 : wordOf F (16 + 8) = wordOf F 24 := rfl
  have e3 : wordOf F (8 + 8) = wordOf F 16 := rfl
  omega
/-- the limbs out of four words -/
theorem limbs_of (w0 w1 w2 w3 : Int) (a0 : 0 ≤ w0) (a1 : 0 ≤ w1) (a2 : 0 ≤ w2) (b0 : w0 < 18446744073709551616) (b1 : w1 < 18446744073709551616) (b2 : w2 < 18446744073709551616) :
    (⟨bits .and .u64 w0 2251799813685247, bits .and .u64 (bits .or .u64 (w0 / 2251799813685248) (IntKind.u64.wrap (w1 * 8192))) 2251799813685247, bits .and .u64 (bits .or .u64 (w1 / 274877906944) (IntKind.u64.wrap (w2 * 67108864))) 2251799813685247,
      bits .and .u64 (bits .or .u64 (w2 / 33554432) (IntKind.u64.wrap (w3 * 549755813888))) 2251799813685247, w3 / 4096⟩ : Fe) = fromN (w0 + 18446744073709551616 * w1 + 340282366920938463463374607431768211456 * w2 + 6277101735386680763835789423207666416102355444464034512896 * w3) := by
  rw [or_lem (w0 / 2251799813685248) w1 13 8192 2251799813685248 (by decide) (by decide) (by omega) (by omega) (by decide),
    or_lem (w1 / 274877906944) w2 26 67108864 274877906944 (by decide) (by decide) (by omega) (by omega) (by decide),
    or_lem (w2 / 33554432) w3 39 549755813888 33554432 (by decide) (by decide) (by omega) (by omega) (by decide),
    mask51 w0 a0 b0, mask51 _ (by omega) (by omega), mask51 _ (by omega) (by omega), mask51 _ (by omega) (by omega)]
  have hV := fromN_V (w0 + 18446744073709551616 * w1 + 340282366920938463463374607431768211456 * w2 + 6277101735386680763835789423207666416102355444464034512896 * w3)
  generalize hX : w0 + 18446744073709551616 * w1 + 340282366920938463463374607431768211456 * w2 + 6277101735386680763835789423207666416102355444464034512896 * w3 = X at *
  unfold fromN
  have e1 : X / 2251799813685248 = w0 / 2251799813685248 + 8192 * w1 + 151115727451828646838272 * w2 + 2787593149816327892691964784081045188247552 * w3 := by omega
  have e2 : X / 5070602400912917605986812821504 = w1 / 274877906944 + 67108864 * w2 + 1237940039285380274899124224 * w3 := by omega
  have e3 : X / 11417981541647679048466287755595961091061972992 = w2 / 33554432 + 549755813888 * w3 := by omega
  have e4 : X / 25711008708143844408671393477458601640355247900524685364822016 = w3 / 4096 := by omega
  rw [e1, e2, e3, e4]
  congr 1 <;> omega
set_option maxRecDepth 100000 in
set_option maxHeartbeats 1600000 in
theorem ofBytes_any (B : Nat) (F : Nat → Int) (w : World) (hf : ∀ i, 0 ≤ F i ∧ F i < 256) (hc : ∀ i, i < 32 → w.cell? ⟨B, i, none⟩ = some (.int .u8 (F i))) (hB : B < w.heap.size) :
    Calls Tryz.prog 25 #[.slice (some ⟨B, 0, none⟩) 32 32] w (FeOut (fromN (wordOf F 32)) w) := by
  have HC := Lib.hid hc; clear hc
  have HF := Lib.hid hf; clear hf
  have hXb : ∀ s, 0 ≤ wordOf (fun i => F (s + i)) 8 ∧ wordOf (fun i => F (s + i)) 8 < 18446744073709551616 := fun s => by
    have h := wordOf_bd (fun i => F (s + i)) (fun i => HF.out _) 8
    have h64 : (2 : Int) ^ (8 * 8) = 18446744073709551616 := by decide
    rw [h64] at h
    exact h
  have hN := word4 F
  have h0 : wordOf F 8 = wordOf (fun i => F (0 + i)) 8 := by simp
  rw [h0] at hN
  clear h0
  have g0 : ∀ s n W, 8 ≤ n → s + 8 ≤ 32 → (∀ i, i < 32 → W.cell? ⟨B, i, none⟩ = some (.int .u8 (F i))) → Calls Tryz.prog 51 #[.slice (some ⟨B, s, none⟩) n n] W fun e w' => e = .returned (.int .u64 (wordOf (fun i => F (s + i)) 8)) ∧ W = w' :=
    fun s n W hn hs h => getWord_any B s n n (fun i => F (s + i)) W hn (fun i => HF.out _) (fun i hi => h (s + i) (by omega))
  obtain ⟨X, hX⟩ : ∃ X : Nat → Int, ∀ s, X s = wordOf (fun i => F (s + i)) 8 := ⟨_, fun _ => rfl⟩
  simp only [← hX] at hXb hN g0
  clear hX
  have G := Lib.hid g0; clear g0
  have HN := Lib.hid hN; clear hN
  obtain ⟨p0, q0⟩ := hXb 0
  obtain ⟨p1, q1⟩ := hXb 8
  obtain ⟨p2, q2⟩ := hXb 16
  obtain ⟨p3, q3⟩ := hXb 24
  clear hXb
  have HL := Lib.hid (limbs_of (X 0) (X 8) (X 16) (X 24) p0 p1 p2 q0 q1 q2)
  go_enter Tryz.func25, Tryz.ntmps25
  go_wp2
  have hcell : ∀ i, i < 32 → (w.alloc (.cells #[.int .u64 0, .int .u64 0, .int .u64 0, .int .u64 0, .int .u64 0] 27)).drew.cell? ⟨B, i, none⟩ = some (.int .u8 (F i)) := fun i hi => by
    rw [gb_cell (gb_drew (gb_alloc (gb_refl w none) _)) (p := ⟨B, i, none⟩) hB (by simp)]; exact HC.out i hi
  have hR0 : Blk (w.alloc (.cells #[.int .u64 0, .int .u64 0, .int .u64 0, .int .u64 0, .int .u64 0] 27)).drew w.heap.size 27 [.int .u64 0, .int .u64 0, .int .u64 0, .int .u64 0, .int .u64 0] := (Blk.new w [.int .u64 0, .int .u64 0, .int .u64 0, .int .u64 0, .int .u64 0] _).drew
  have hg0 : w.grownBy (w.alloc (.cells #[.int .u64 0, .int .u64 0, .int .u64 0, .int .u64 0, .int .u64 0] 27)).drew none := gb_drew (gb_alloc (gb_refl w none) _)
  have HCE := Lib.hid hcell
  clear hcell
  revert HCE hR0 hg0
  generalize w.alloc (.cells #[.int .u64 0, .int .u64 0, .int .u64 0, .int .u64 0, .int .u64 0] 27) = W0
  intro hR0 hg0 HCE
  have HQ : ∀ n i, i < 32 → (W0.drewN n).cell? ⟨B, i, none⟩ = some (.int .u8 (F i)) := fun n i hi => HCE.out i hi
  have HQ2 := Lib.hid HQ; clear HQ
  go_quiet ((go_at_call 51; exact Calls.quiet_of_same ((G.out _ _ _ (by decide) (by decide) (HQ2.out _)).mono fun e w' h => ⟨h.1, h.2.symm⟩)))
  have hg1 : w.grownBy (W0.drewN nq) none := ⟨hg0.os, hg0.tape, hg0.output, hg0.size, hg0.block⟩
  have hR1 : Blk (W0.drewN nq) w.heap.size 27 [.int .u64 0, .int .u64 0, .int .u64 0, .int .u64 0, .int .u64 0] := hR0
  clear hR0 hg0
  have z0 := hR1.cell (i := 0) rfl
  have z1 := hR1.cell (i := 1) rfl
  have z2 := hR1.cell (i := 2) rfl
  have z3 := hR1.cell (i := 3) rfl
  have z4 := hR1.cell (i := 4) rfl
  have y0 := hR1.free 0
  have y1 := hR1.free 1
  have y2 := hR1.free 2
  have y3 := hR1.free 3
  have y4 := hR1.free 4
  go_wp2
  refine bodyPost_ret (v := (fromN (wordOf F 32)).v) ?_ rfl (feOut_of ⟨rfl, gb_set5 hg1 (Nat.le_refl _) _ _ _ _ _⟩)
  rw [HN.out, ← HL.out]
  simp [results, Tryz.results25, go_sem, z0, z1, z2, z3, z4, Fe.v]
end Go.Proofs.YtcmnecnbcohaeaaGreatDoor

/- field: bytes.Equal (the shelf's contract), Get. -/
namespace Go.Proofs.YtcmnecnbcohaeaaGreatDoor
open Go.RowKit Go.Shelf

def laysnb115_ren : Go.Shelf.Ren := ⟨fun | 115 => 26 | n => n, fun | 37 => 22 | 4 => 4 | 9 => 9 | 5 => 5 | n => n, fun | n => n⟩
theorem laysnb115 : Go.Proofs.Lays.nb115 Tryz.prog laysnb115_ren := {
  mixed := by kernel_rfl
  f115 := Tryz.func26.trans (congrArg some (by kernel_rfl))
  t4 := Tryz.underlying4
  a4 := Tryz.isAgg4
  z4 := Tryz.sizeOf4
  v4 := Tryz.zeroValue4
  t9 := Tryz.underlying9
  a9 := Tryz.isAgg9
  z9 := Tryz.sizeOf9
  v9 := Tryz.zeroValue9
  t37 := Tryz.underlying22
  a37 := Tryz.isAgg22
  z37 := Tryz.sizeOf22
  v37 := Tryz.zeroValue22
  t5 := Tryz.underlying5
  a5 := Tryz.isAgg5
  z5 := Tryz.sizeOf5
  v5 := Tryz.zeroValue5 }
def intsOf (x : Int) : List Int := (List.range 32).map fun i => x / 2 ^ (8 * i) % 256
theorem intsOf_get (x : Int) (i : Nat) (h : i < 32) : (intsOf x)[i]? = some (x / 2 ^ (8 * i) % 256) := by
  unfold intsOf; rw [List.getElem?_map, List.getElem?_range h]; rfl
theorem bytes_in {w : World} {B : Nat} {T : TypeId} {x : Int} (h : Blk w B T (bytesV x)) : Lib.BytesIn w (some ⟨B, 0, none⟩) 32 (intsOf x) :=
  Lib.BytesIn.of_cells fun i hi => by
    have hadd : (⟨B, 0, none⟩ : Addr).add i = ⟨B, i, none⟩ := by unfold Addr.add; split <;> simp_all
    have hi2 : i < 32 := by simpa [intsOf] using hi
    rw [hadd, h.cell (bytesV_get x i hi2)]
    have := intsOf_get x i hi2
    simp [List.getD, this, bytV]
theorem byte_bd (x : Int) (i : Nat) : 0 ≤ x / 2 ^ (8 * i) % 256 ∧ x / 2 ^ (8 * i) % 256 < 256 := ⟨Int.emod_nonneg _ (by decide), Int.emod_lt_of_pos _ (by decide)⟩
theorem bytesOf_same (x y : Int) (h0 : 0 ≤ x) (k0 : 0 ≤ y) (h1 : x < 2 ^ 256) (k1 : y < 2 ^ 256) : (Lib.bytesOf (intsOf x) == Lib.bytesOf (intsOf y)) = decide (x = y) := by
  rw [Bool.eq_iff_iff, beq_iff_eq, decide_eq_true_iff]
  constructor
  · intro h
    refine digits_same 32 x y h0 k0 h1 k1 fun i hi => ?_
    have e : (Lib.bytesOf (intsOf x))[i]? = (Lib.bytesOf (intsOf y))[i]? := by rw [h]
    unfold Lib.bytesOf at e
    rw [List.getElem?_map, List.getElem?_map, intsOf_get x i hi, intsOf_get y i hi] at e
    simp only [Option.map_some, Option.some.injEq] at e
    have e2 := congrArg UInt8.toNat e
    have bx := byte_bd x i
    have b_y := byte_bd y i
    generalize x / 2 ^ (8 * i) % 256 = p at *
    generalize y / 2 ^ (8 * i) % 256 = q at *
    rw [UInt8.toNat_ofNat', UInt8.toNat_ofNat'] at e2
    omega
  · rintro rfl; rfl
theorem equal_any (A B : Nat) (S T : TypeId) (x y : Int) (w : World) (h0 : 0 ≤ x) (k0 : 0 ≤ y) (h1 : x < 2 ^ 256) (k1 : y < 2 ^ 256) (hA : Blk w A S (bytesV x)) (hB : Blk w B T (bytesV y)) :
    Calls Tryz.prog 26 #[.slice (some ⟨A, 0, none⟩) 32 32, .slice (some ⟨B, 0, none⟩) 32 32] w fun e w' => e = .returned (.bool (decide (x = y))) ∧ w = w' := by
  refine (Any.bytes_Equal_all laysnb115 _ _ 32 32 32 32 (intsOf x) (intsOf y) w (by simp [intsOf]) (by simp [intsOf]) (bytes_in hA) (bytes_in hB)).mono ?_
  rintro e w' ⟨rfl, rfl⟩
  exact ⟨by rw [bytesOf_same x y h0 k0 h1 k1], rfl⟩
theorem wordOf_bytes (x : Int) : ∀ k, wordOf (fun i => x / 2 ^ (8 * i) % 256) k = x % 2 ^ (8 * k) := by
  intro k
  induction k with
  | zero => simp [wordOf]
  | succ k ih =>
    rw [wordOf, ih]
    have e : (2 : Int) ^ (8 * (k + 1)) = 2 ^ (8 * k) * 256 := by rw [show 8 * (k + 1) = 8 * k + 8 by omega, Int.pow_add]; rfl
    have hp : (0 : Int) < 2 ^ (8 * k) := Int.pow_pos (by decide)
    rw [e]
    generalize (2 : Int) ^ (8 * k) = p at *
    have h1 := Int.mul_ediv_add_emod x p
    have h2 := Int.mul_ediv_add_emod x (p * 256)
    have h3 : x / (p * 256) = x / p / 256 := by rw [Int.ediv_ediv_of_nonneg (by omega)]
    have h4 := Int.mul_ediv_add_emod (x / p) 256
    rw [h3] at h2
    have h5 : p * (x / p) = p * (256 * (x / p / 256) + x / p % 256) := by rw [h4]
    rw [Int.mul_add, ← Int.mul_assoc] at h5
    have h6 : x / p % 256 * p = p * (x / p % 256) := Int.mul_comm ..
    omega
theorem number_bytes (x : Int) (h0 : 0 ≤ x) (h1 : x < 2 ^ 256) : wordOf (fun i => x / 2 ^ (8 * i) % 256) 32 = x := by
  rw [wordOf_bytes x 32, Int.emod_eq_of_lt h0 h1]
set_option maxRecDepth 100000 in
set_option maxHeartbeats 1600000 in
theorem get_yes (B : Nat) (T : TypeId) (x : Int) (w : World) (h0 : 0 ≤ x) (h1 : x < 57896044618658097711785492504343953926634992332820282019728792003956564819949) (hb : Blk w B T (bytesV x)) :
    Calls Tryz.prog 7 #[.slice (some ⟨B, 0, none⟩) 32 32] w (RootOut (fromN x) true w) := by
  have h2 : x < 2 ^ 256 := by
    have e : (2 : Int) ^ 256 = 115792089237316195423570985008687907853269984665640564039457584007913129639936 := by decide
    omega
  have okf := (fromN_right h0 h2).ok
  have hm : (Fe.m (fromN x) : Int) = x := by rw [fromN_m]; omega
  have hlt := hb.lt
  have hof : ∀ W, w.grownBy W none → Calls Tryz.prog 25 #[.slice (some ⟨B, 0, none⟩) 32 32] W (FeOut (fromN x) W) := fun W hg => by
    have := ofBytes_any B (fun i => x / 2 ^ (8 * i) % 256) W (fun i => byte_bd x i) (fun i hi => (hb.grown hg (by simp)).cell (bytesV_get x i hi)) (Nat.lt_of_lt_of_le hlt hg.size)
    rwa [number_bytes x h0 h2] at this
  have HO := Lib.hid hof; clear hof
  have HM := Lib.hid hm; clear hm
  clear h1
  go_enter Tryz.func7, Tryz.ntmps7
  go_wp2_with fail
  refine (HO.out _ (gb_alloc (gb_refl _ _) _)).mono ?_
  rintro e v1 ⟨r, hr, rfl, hg1⟩
  have okr : r.Ok := by rw [hr.out]; exact okf
  have hR1 : Room5 v1 w.heap.size 27 := Room5.grown ⟨_, _, _, _, _, Blk.new w [.int .u64 0, .int .u64 0, .int .u64 0, .int .u64 0, .int .u64 0] _⟩ hg1 (by simp)
  have hg2 := gb_trans (gb_alloc (gb_refl w none) _) hg1
  go_wp2_with fail
  refine (put_any r _ okr).mono ?_
  rintro e v2 ⟨NB, rfl, hg3, hNB, hbn⟩
  rw [hr.out, HM.out] at hbn
  have hbx := hb.grown (gb_trans (gb_alloc hg2 _) hg3) (by simp)
  have hG2 : Blk v2 v1.heap.size 27 (feL r) := (Blk.new v1 (feL r) _).grown hg3 (by simp)
  obtain ⟨u0, u1, u2, u3, u4, hR2⟩ := (hR1.grown (World.grownBy_alloc v1 _ none) (by simp)).grown hg3 (by simp)
  have hg4 := gb_trans (gb_alloc hg2 _) hg3
  have c0 := hG2.cell (i := 0) rfl
  have c1 := hG2.cell (i := 1) rfl
  have c2 := hG2.cell (i := 2) rfl
  have c3 := hG2.cell (i := 3) rfl
  have c4 := hG2.cell (i := 4) rfl
  have t0 := hR2.cell (i := 0) rfl
  have t1 := hR2.cell (i := 1) rfl
  have t2 := hR2.cell (i := 2) rfl
  have t3 := hR2.cell (i := 3) rfl
  have t4 := hR2.cell (i := 4) rfl
  have f0 := hR2.free 0
  have f1 := hR2.free 1
  have f2 := hR2.free 2
  have f3 := hR2.free 3
  have f4 := hR2.free 4
  have heq := (equal_any NB B _ T x x v2 h0 h0 h2 h2 hbn hbx)
  rw [decide_eq_true rfl] at heq
  have HEQ := Lib.hid heq; clear heq
  go_wp2_with fail
  refine (HEQ.out).mono ?_
  rintro e v3 ⟨rfl, rfl⟩
  go_wp2_with fail
  refine bodyPost_ret (v := .tuple #[.agg #[.int .u64 r.x0, .int .u64 r.x1, .int .u64 r.x2, .int .u64 r.x3, .int .u64 r.x4], .bool true]) ?_ rfl ⟨r, hr, rfl, gb_set5 hg4 (Nat.le_refl _) _ _ _ _ _⟩
  simp [results, Tryz.results7, go_sem, t0, t1, t2, t3, t4]
set_option maxRecDepth 100000 in
set_option maxHeartbeats 1600000 in
theorem get_no (B : Nat) (T : TypeId) (x : Int) (w : World) (h0 : 0 ≤ x) (h1 : 57896044618658097711785492504343953926634992332820282019728792003956564819949 ≤ x) (h2 : x < 2 ^ 256) (hb : Blk w B T (bytesV x)) :
    Calls Tryz.prog 7 #[.slice (some ⟨B, 0, none⟩) 32 32] w (RootOut Fe.zeroF false w) := by
  have okf := (fromN_right h0 h2).ok
  obtain ⟨y, hy⟩ : ∃ y, y = x % 57896044618658097711785492504343953926634992332820282019728792003956564819949 := ⟨_, rfl⟩
  have hm : (Fe.m (fromN x) : Int) = y := by rw [fromN_m, hy]
  have k0 : 0 ≤ y := by omega
  have kl : y < 57896044618658097711785492504343953926634992332820282019728792003956564819949 := by omega
  have k1 : y < 2 ^ 256 := by
    have e : (2 : Int) ^ 256 = 115792089237316195423570985008687907853269984665640564039457584007913129639936 := by decide
    omega
  have kne : y ≠ x := by omega
  clear hy kl
  have hlt := hb.lt
  have hof : ∀ W, w.grownBy W none → Calls Tryz.prog 25 #[.slice (some ⟨B, 0, none⟩) 32 32] W (FeOut (fromN x) W) := fun W hg => by
    have := ofBytes_any B (fun i => x / 2 ^ (8 * i) % 256) W (fun i => byte_bd x i) (fun i hi => (hb.grown hg (by simp)).cell (bytesV_get x i hi)) (Nat.lt_of_lt_of_le hlt hg.size)
    rwa [number_bytes x h0 h2] at this
  have HO := Lib.hid hof; clear hof
  have HM := Lib.hid hm; clear hm
  clear h1
  go_enter Tryz.func7, Tryz.ntmps7
  go_wp2_with fail
  refine (HO.out _ (gb_alloc (gb_refl _ _) _)).mono ?_
  rintro e v1 ⟨r, hr, rfl, hg1⟩
  have okr : r.Ok := by rw [hr.out]; exact okf
  have hR1 : Room5 v1 w.heap.size 27 := Room5.grown ⟨_, _, _, _, _, Blk.new w [.int .u64 0, .int .u64 0, .int .u64 0, .int .u64 0, .int .u64 0] _⟩ hg1 (by simp)
  have hg2 := gb_trans (gb_alloc (gb_refl w none) _) hg1
  go_wp2_with fail
  refine (put_any r _ okr).mono ?_
  rintro e v2 ⟨NB, rfl, hg3, hNB, hbn⟩
  rw [hr.out, HM.out] at hbn
  have hbx := hb.grown (gb_trans (gb_alloc hg2 _) hg3) (by simp)
  have hG2 : Blk v2 v1.heap.size 27 (feL r) := (Blk.new v1 (feL r) _).grown hg3 (by simp)
  obtain ⟨u0, u1, u2, u3, u4, hR2⟩ := (hR1.grown (World.grownBy_alloc v1 _ none) (by simp)).grown hg3 (by simp)
  have hg4 := gb_trans (gb_alloc hg2 _) hg3
  have c0 := hG2.cell (i := 0) rfl
  have c1 := hG2.cell (i := 1) rfl
  have c2 := hG2.cell (i := 2) rfl
  have c3 := hG2.cell (i := 3) rfl
  have c4 := hG2.cell (i := 4) rfl
  have t0 := hR2.cell (i := 0) rfl
  have t1 := hR2.cell (i := 1) rfl
  have t2 := hR2.cell (i := 2) rfl
  have t3 := hR2.cell (i := 3) rfl
  have t4 := hR2.cell (i := 4) rfl
  have f0 := hR2.free 0
  have f1 := hR2.free 1
  have f2 := hR2.free 2
  have f3 := hR2.free 3
  have f4 := hR2.free 4
  have heq := (equal_any NB B _ T y x v2 k0 h0 k1 h2 hbn hbx)
  rw [decide_eq_false kne] at heq
  clear kne
  have HEQ := Lib.hid heq; clear heq
  go_wp2_with fail
  refine (HEQ.out).mono ?_
  rintro e v3 ⟨rfl, rfl⟩
  go_wp2_with fail
  refine bodyPost_ret (v := .tuple #[.agg #[.int .u64 0, .int .u64 0, .int .u64 0, .int .u64 0, .int .u64 0], .bool false]) ?_ rfl ⟨Fe.zeroF, Lib.hid rfl, rfl, gb_set5 hg4 (Nat.le_refl _) _ _ _ _ _⟩
  simp [results, Tryz.results7, go_sem, t0, t1, t2, t3, t4]
end Go.Proofs.YtcmnecnbcohaeaaGreatDoor

/- field: the laws' small helpers: edge, small, SameBytes. -/
namespace Go.Proofs.YtcmnecnbcohaeaaGreatDoor
open Go.RowKit

theorem mk32 (w : World) : (Instr.makeSlice 22 (.int .i64 32) (.int .i64 32)).run Tryz.prog w = .ok (.slice (some ⟨w.heap.size, 0, none⟩) 32 32) (w.alloc (.cells zeros32.toArray 5)) := by kernel_rfl
def ffs (k : Nat) : List Value := List.replicate k (.int .u8 255) ++ List.replicate (32 - k) (.int .u8 0)
theorem ffs_length (k : Nat) (h : k ≤ 32) : (ffs k).length = 32 := by simp [ffs]; omega
theorem ffs_get (k i : Nat) (h : k ≤ 32) (hi : i < 32) : (ffs k)[i]? = some (.int .u8 (if i < k then 255 else 0)) := by
  unfold ffs
  by_cases h1 : i < k
  · rw [List.getElem?_append_left (by simpa using h1), List.getElem?_replicate, if_pos h1, if_pos h1]
  · rw [List.getElem?_append_right (by simp; omega), List.getElem?_replicate, if_pos (by simp; omega), if_neg h1]
theorem ffs_set (k : Nat) (h : k < 32) : (ffs k).set k (.int .u8 255) = ffs (k + 1) := by
  apply List.ext_getElem?
  intro i
  rw [List.getElem?_set, ffs_length k (by omega)]
  by_cases hi : i < 32
  · rw [ffs_get (k + 1) i (by omega) hi]
    by_cases e : k = i
    · subst e; rw [if_pos rfl, if_pos h, if_pos (by omega)]
    · rw [if_neg e, ffs_get k i (by omega) hi]
      by_cases h1 : i < k
      · rw [if_pos h1, if_pos (by omega)]
      · rw [if_neg h1, if_neg (by omega)]
  · rw [if_neg (by omega), List.getElem?_eq_none (by rw [ffs_length k (by omega)]; omega), List.getElem?_eq_none (by rw [ffs_length (k + 1) (by omega)]; omega)]
def edgeL (n : Int) : List Value := ((ffs 32).set 0 (.int .u8 (237 + n))).set 31 (.int .u8 127)
theorem edge_p : edgeL 0 = bytesV 57896044618658097711785492504343953926634992332820282019728792003956564819949 := by kernel_rfl
theorem edge_p1 : edgeL (-1) = bytesV 57896044618658097711785492504343953926634992332820282019728792003956564819948 := by kernel_rfl
set_option maxHeartbeats 800000 in
theorem edge_any (n : Int) (w : World) (h0 : -20 ≤ n) (h1 : n ≤ 18) :
    Calls Tryz.prog 17 #[.int .i64 n] w fun e w' => ∃ NB, e = .returned (.slice (some ⟨NB, 0, none⟩) 32 32) ∧ w.grownBy w' none ∧ w.heap.size ≤ NB ∧ Blk w' NB 5 (edgeL n) := by
  have hmk := mk32
  go_enter Tryz.func17, Tryz.ntmps17
  go_wp2
  clear hmk
  go_loopw [4] (fun i wr => ∃ k : Nat, k ≤ 32 ∧ i = .int .i64 k ∧ w.grownBy wr none ∧ Blk wr w.heap.size 5 (ffs k)) (fun i _ => 32 - (intOf i).toNat)
  case atStart => exact ⟨0, by omega, rfl, gb_alloc (gb_refl _ _) _, Blk.new w (ffs 0) 5⟩
  case round =>
    obtain ⟨k, hk, rfl, hg, hB⟩ := hrel
    have hl : (ffs k).length = 32 := by simp [ffs]; omega
    by_cases hk2 : k < 32
    · have hi : (k : Int) < 32 := by omega
      obtain ⟨v0, hv0⟩ : ∃ v, wr.cell? ⟨w.heap.size, k, none⟩ = some v := ⟨_, hB.cell (List.getElem?_eq_getElem (by omega))⟩
      have f0 := hB.free k
      have hs := hB.set k (.int .u8 255)
      have Hs := Lib.hid (ffs_set k hk2)
      clear hl
      go_wp2
      go_roundw
      case rel => exact ⟨k + 1, by omega, by go_num, gb_set_new hg (Nat.le_refl _) _, Hs.out ▸ hs⟩
      case measure => simp [intOf]; omega
    · obtain rfl : k = 32 := by omega
      have c0 := hB.cell (i := 0) rfl
      have c1 := hB.cell (i := 31) rfl
      have f0 := hB.free 0
      have f1 := hB.free 31
      have hs := (hB.set 0 (.int .u8 (237 + n))).set 31 (.int .u8 127)
      clear hl
      go_wp2
      go_ret
      exact ⟨w.heap.size, rfl, gb_set_new (gb_set_new hg (Nat.le_refl _) _) (Nat.le_refl _) _, Nat.le_refl _, hs⟩
set_option maxHeartbeats 400000 in
theorem small_any (x : Int) (w : World) : Calls Tryz.prog 18 #[.int .u64 x] w (FeOut ⟨x, 0, 0, 0, 0⟩ w) := by
  go_enter Tryz.func18, Tryz.ntmps18
  go_wp2
  refine bodyPost_ret (v := .agg #[.int .u64 x, .int .u64 0, .int .u64 0, .int .u64 0, .int .u64 0]) ?_ rfl (feOut_of ⟨rfl, gb_alloc (gb_refl _ _) _⟩)
  simp [results, Tryz.results18, go_sem]
set_option maxHeartbeats 800000 in
theorem sameBytes_any (A B : Nat) (S T : TypeId) (x y : Int) (w : World) (h0 : 0 ≤ x) (k0 : 0 ≤ y) (h1 : x < 2 ^ 256) (k1 : y < 2 ^ 256) (hA : Blk w A S (bytesV x)) (hB : Blk w B T (bytesV y)) :
    Calls Tryz.prog 11 #[.slice (some ⟨A, 0, none⟩) 32 32, .slice (some ⟨B, 0, none⟩) 32 32] w fun e w' => e = .returned (.bool (decide (x = y))) ∧ w.grownBy w' none := by
  have HXY := Lib.hid (And.intro (And.intro h0 h1) (And.intro k0 k1)); clear h0 h1 k0 k1
  go_enter Tryz.func11, Tryz.ntmps11
  go_wp2
  go_loopw [5] (fun i wr => ∃ k : Nat, k ≤ 32 ∧ i = .int .i64 k ∧ w.grownBy wr none ∧ Hid (∀ t, t < k → x / 2 ^ (8 * t) % 256 = y / 2 ^ (8 * t) % 256)) (fun i _ => 32 - (intOf i).toNat)
  case atStart => exact ⟨0, by omega, rfl, gb_refl _ _, Lib.hid fun t ht => by omega⟩
  case round =>
    obtain ⟨k, hk, rfl, hg, HS⟩ := hrel
    by_cases hk2 : k < 32
    · have hi : (k : Int) < 32 := by omega
      have c0 := (hA.grown hg (by simp)).cell (bytesV_get x k hk2)
      have c1 := (hB.grown hg (by simp)).cell (bytesV_get y k hk2)
      unfold bytV at c0 c1
      by_cases he : x / 2 ^ (8 * k) % 256 = y / 2 ^ (8 * k) % 256
      · have HS2 : Hid (∀ t, t < k + 1 → x / 2 ^ (8 * t) % 256 = y / 2 ^ (8 * t) % 256) := Lib.hid fun t ht => by
          by_cases e : t = k
          · subst e; exact he
          · exact HS.out t (by omega)
        rw [he] at c0
        clear he
        generalize y / 2 ^ (8 * k) % 256 = v at *
        go_wp2
        go_quiet (fail)
        go_wp2
        go_roundw
        case rel => exact ⟨k + 1, by omega, by go_num, gb_drewN hg _, HS2⟩
        case measure => simp [intOf]; omega
      · have HF : Hid (decide (x = y) = false) := Lib.hid (by rw [decide_eq_false_iff_not]; rintro rfl; exact he rfl)
        generalize x / 2 ^ (8 * k) % 256 = u at *
        generalize y / 2 ^ (8 * k) % 256 = v at *
        have hb1 : (u == v) = false := by simpa using he
        have hb2 : (u != v) = true := by simpa using he
        go_wp2
        go_quiet (fail)
        go_wp2
        go_ret
        exact ⟨by rw [HF.out]; rfl, gb_drewN hg _⟩
    · obtain rfl : k = 32 := by omega
      have HF : Hid (decide (x = y) = true) := Lib.hid (by rw [decide_eq_true_iff]; exact digits_same 32 x y HXY.out.1.1 HXY.out.2.1 HXY.out.1.2 HXY.out.2.2 HS.out)
      go_wp2
      go_ret
      exact ⟨by rw [HF.out]; rfl, hg⟩
end Go.Proofs.YtcmnecnbcohaeaaGreatDoor

/- field: Root, Same and Zero, with the answer as a letter. -/
namespace Go.Proofs.YtcmnecnbcohaeaaGreatDoor
open Go.RowKit

theorem root_all (p q : Fe) (w0 : World) (hT : FTab w0) (okp : p.Ok) (okq : q.Ok) : Calls Tryz.prog 20 #[.agg #[.int .u64 p.x0, .int .u64 p.x1, .int .u64 p.x2, .int .u64 p.x3, .int .u64 p.x4], .agg #[.int .u64 q.x0, .int .u64 q.x1, .int .u64 q.x2, .int .u64 q.x3, .int .u64 q.x4]] w0 (RootOut (rootF p q).1 (rootF p q).2 w0) := by
  unfold rootF
  by_cases h1 : fitsF (guessF p q) p q = true
  · rw [if_pos h1]
    unfold evenF
    by_cases h3 : Fe.m (guessF p q) % 2 = 1
    · rw [if_pos h3]; exact root_to p q w0 hT okp okq h1 (decide_eq_true h3)
    · rw [if_neg h3]; exact root_te p q w0 hT okp okq h1 (decide_eq_false h3)
  · rw [if_neg h1]
    have h1' := (Bool.eq_false_iff).2 h1
    by_cases h2 : fitsF (Fe.mulF (guessF p q) rootI) p q = true
    · rw [if_pos h2]
      unfold evenF
      by_cases h3 : Fe.m (Fe.mulF (guessF p q) rootI) % 2 = 1
      · rw [if_pos h3]; exact root_fo p q w0 hT okp okq h1' h2 (decide_eq_true h3)
      · rw [if_neg h3]; exact root_fe p q w0 hT okp okq h1' h2 (decide_eq_false h3)
    · rw [if_neg h2]; exact root_no p q w0 hT okp okq h1' ((Bool.eq_false_iff).2 h2)
theorem same_val (p q : Fe) (b : Bool) (w : World) (okp : p.Ok) (okq : q.Ok) (hb : decide (Fe.m p = Fe.m q) = b) : Calls Tryz.prog 21 #[.agg #[.int .u64 p.x0, .int .u64 p.x1, .int .u64 p.x2, .int .u64 p.x3, .int .u64 p.x4], .agg #[.int .u64 q.x0, .int .u64 q.x1, .int .u64 q.x2, .int .u64 q.x3, .int .u64 q.x4]] w fun e w' => e = .returned (.bool b) ∧ w.grownBy w' none := by
  rw [← hb]; exact same_any p q w okp okq
theorem zero_val (p : Fe) (b : Bool) (w : World) (okp : p.Ok) (hb : decide (Fe.m p = 0) = b) : Calls Tryz.prog 22 #[.agg #[.int .u64 p.x0, .int .u64 p.x1, .int .u64 p.x2, .int .u64 p.x3, .int .u64 p.x4]] w fun e w' => e = .returned (.bool b) ∧ w.grownBy w' none := by
  rw [← hb]; exact zero_any p w okp
end Go.Proofs.YtcmnecnbcohaeaaGreatDoor

/- field: the law's awake. -/
namespace Go.Proofs.YtcmnecnbcohaeaaGreatDoor
open Go.RowKit

theorem sameBytes_val (A B : Nat) (S T : TypeId) (x y : Int) (b : Bool) (w : World) (hA : Blk w A S (bytesV x)) (hB : Blk w B T (bytesV y)) (h : ((0 ≤ x ∧ x < 2 ^ 256) ∧ 0 ≤ y ∧ y < 2 ^ 256) ∧ decide (x = y) = b) :
    Calls Tryz.prog 11 #[.slice (some ⟨A, 0, none⟩) 32 32, .slice (some ⟨B, 0, none⟩) 32 32] w fun e w' => e = .returned (.bool b) ∧ w.grownBy w' none := by
  rw [← h.2]; exact sameBytes_any A B S T x y w h.1.1.1 h.1.2.1 h.1.1.2 h.1.2.2 hA hB
theorem edge_m1 (w : World) : Calls Tryz.prog 17 #[.int .i64 (-1)] w fun e w' => ∃ NB, e = .returned (.slice (some ⟨NB, 0, none⟩) 32 32) ∧ w.grownBy w' none ∧ w.heap.size ≤ NB ∧ Blk w' NB 5 (bytesV 57896044618658097711785492504343953926634992332820282019728792003956564819948) := by
  rw [← edge_p1]; exact edge_any (-1) w (by decide) (by decide)
theorem edge_0 (w : World) : Calls Tryz.prog 17 #[.int .i64 0] w fun e w' => ∃ NB, e = .returned (.slice (some ⟨NB, 0, none⟩) 32 32) ∧ w.grownBy w' none ∧ w.heap.size ≤ NB ∧ Blk w' NB 5 (bytesV 57896044618658097711785492504343953926634992332820282019728792003956564819949) := by
  rw [← edge_p]; exact edge_any 0 w (by decide) (by decide)
theorem small2 (w : World) : Calls Tryz.prog 18 #[.int .u64 2] w (FeOut fe2 w) := small_any 2 w
theorem small4 (w : World) : Calls Tryz.prog 18 #[.int .u64 4] w (FeOut fe4 w) := small_any 4 w
theorem only_store {ops : Array Oper} {i j : Nat} {oj : Oper} (h : ((List.range ops.size).all fun k => k == i || ((ops[k]?).map fun o => o.dst.isSome).getD true) = true) (hj : j ≠ i) (hoj : ops[j]? = some oj) : oj.dst ≠ none := by
  have hlt : j < ops.size := by
    rcases Nat.lt_or_ge j ops.size with h' | h'
    · exact h'
    · rw [Array.getElem?_eq_none h'] at hoj; cases hoj
  have := (List.all_eq_true.1 h) j (List.mem_range.2 hlt)
  rw [hoj] at this
  simp [hj] at this
  intro e; rw [e] at this; simp at this
theorem two_stores {ops : Array Oper} {i j p : Nat} {st : Nat → Nat} {ps : List Nat} {oj : Oper} (h : ((List.range ops.size).all fun k => k == i || ((ops[k]?).map fun o => o.dst.isSome || (ps.contains (st k) && st k != p)).getD true) = true) (hj : j ≠ i) (hoj : ops[j]? = some oj) (hn : oj.dst = none) : st j ∈ ps ∧ st j ≠ p := by
  have hlt : j < ops.size := by
    rcases Nat.lt_or_ge j ops.size with h' | h'
    · exact h'
    · rw [Array.getElem?_eq_none h'] at hoj; cases hoj
  have := (List.all_eq_true.1 h) j (List.mem_range.2 hlt)
  rw [hoj] at this
  simpa [hj, hn] using this
set_option maxRecDepth 100000 in
set_option maxHeartbeats 3200000 in
theorem awake_any (w0 : World) (hT : FTab w0) : Calls Tryz.prog 5 #[] w0 fun e w' => e = .returned (.bool true) ∧ w0.grownBy w' none := by
  have HT := Lib.hid hT; clear hT
  go_enter Tryz.func5, Tryz.ntmps5
  go_wp2_with fail
  refine (edge_0 _).mono ?_
  rintro e v1 ⟨NB, rfl, hg1, hNB, hb⟩
  go_wp2_with fail
  refine (get_no NB _ _ _ (by decide) (by decide) (by decide) hb).mono ?_
  rintro e v2 ⟨z, hz, rfl, hg2⟩
  have G2 := gb_trans hg1 hg2
  go_wp2_with fail
  refine (small4 _).mono ?_
  rintro e v3 ⟨s4, hs4, rfl, hg3⟩
  have G3 := gb_trans (gb_alloc G2 _) hg3
  go_wp2_with fail
  refine (one_any _).mono ?_
  rintro e v4 ⟨o1, ho1, rfl, hg4⟩
  have G4 := gb_trans G3 hg4
  have oks4 : s4.Ok := by rw [hs4.out]; exact fe4_right.ok
  have oko1 : o1.Ok := by rw [ho1.out]; exact one_right.ok
  go_wp2_with fail
  have hr4 := root_all s4 o1 v4 (HT.out.grown G4) oks4 oko1
  rw [hs4.out, ho1.out, root4] at hr4
  rw [hs4.out, ho1.out]
  refine hr4.mono ?_
  rintro e v5 ⟨q4, hq4, rfl, hg5⟩
  have okq4 : q4.Ok := by rw [hq4]; exact (root_says one_right root4).1.ok
  have H4 : Hid (Fe.m q4 = 2) := Lib.hid (by rw [hq4]; exact root4_m)
  clear hr4 hq4 hs4 ho1 hb
  have G5 := gb_trans G4 hg5
  go_wp2_with fail
  refine (small2 _).mono ?_
  rintro e v6 ⟨s2, hs2, rfl, hg6⟩
  have G6 := gb_trans (gb_alloc G5 _) hg6
  go_wp2_with fail
  refine (one_any _).mono ?_
  rintro e v7 ⟨o2, ho2, rfl, hg7⟩
  have G7 := gb_trans G6 hg7
  have oks2 : s2.Ok := by rw [hs2.out]; exact fe2_right.ok
  have oko2 : o2.Ok := by rw [ho2.out]; exact one_right.ok
  have hq := (Blk.new v5 (feL q4) 27).grown (gb_trans hg6 hg7) (by simp)
  go_wp2_with fail
  have hr2 := root_all s2 o2 v7 (HT.out.grown G7) oks2 oko2
  rw [hs2.out, ho2.out, root2] at hr2
  rw [hs2.out, ho2.out]
  refine hr2.mono ?_
  rintro e v8 ⟨q2, _, rfl, hg8⟩
  clear hr2 hs2 ho2
  have G8 := gb_trans G7 hg8
  have hq8 := hq.grown hg8 (by simp)
  go_wp2_with fail
  have hB0 : EnvB w0 (v5.heap.size + 1) [(v5.heap.size, q4)] [] (v8.alloc (.cells #[.int .u64 q2.x0, .int .u64 q2.x1, .int .u64 q2.x2, .int .u64 q2.x3, .int .u64 q2.x4] 27)) :=
    ⟨gb_alloc G8 _, by
      intro p hp
      simp only [List.mem_cons, List.not_mem_nil, or_false] at hp
      rcases hp with rfl
      exact hq8.alloc _, by simp, by intro p hp; simp only [List.mem_cons, List.not_mem_nil, or_false] at hp; rcases hp with rfl; exact Nat.lt_succ_self _, by
      have h1 := (gb_trans (gb_trans hg6 hg7) hg8).size
      simp at h1 ⊢
      omega, by have := G5.size; omega⟩
  clear hq8 hq hg1 hg2 hg3 hg4 hg5 hg6 hg7 hg8 G2 G3 G4 G5 G6 G7 G8 hNB oks2 oko2 oks4 oko1 hz
  refine wp_region_flow3 (items3 (Okb w0 [(v5.heap.size, q4)]) [.val (.bool true), .any, .any, .any, .any, .any, .any, .any, .any, .any, .any, .any, .any, .any, .any, .any, .any, .any, .any, .any, .any, .any, .any, .any, .val (Fe.oneF.v), .val ((Fe.negF Fe.oneF).v), .bytes ((Fe.m (Fe.negF Fe.oneF) : Int)), .bytes ((57896044618658097711785492504343953926634992332820282019728792003956564819948 : Int)), .val (.bool true), .val (.bool true), .val (.bool false), .val (.bool true), .val (.bool true), .val (.bool true), .val (.bool true), .val (.bool true), .val (.bool true), .val (q4.v), .val (fe2.v), .val (.bool true), .val (.bool true), .val (.bool true), .val (.bool false), .val (.bool true), .val (.bool true), .val (.bool true), .val (Fe.zeroF.v), .val ((invF Fe.zeroF).v), .val (.bool true), .val (.bool true)]) (fun j =>  0) (Stored3 (Okb w0 [(v5.heap.size, q4)]) (fun j =>  Fe.zeroF)) (EnvB w0 (v5.heap.size + 1) [(v5.heap.size, q4)] []) [] (by kernel_rfl) (by kernel_rfl) (by kernel_rfl) (hB0.grown (gb_drewn _)) (fun s hs => by cases hs) (by kernel_rfl) ?_ ?_
  · refine ⟨fe3_call rfl (by decide) fun a w h => ?_, ?_⟩
    · have hb := h.base
      refine ⟨wants_none rfl, 16, #[], ?_, ?_⟩
      · clear h hb
        go_simp
      · refine (one_any w).mono ?_
        intro e w1 hp
        obtain ⟨rfl, hg⟩ := feOut_is hp
        exact ⟨_, rfl, hg, rfl⟩
    refine ⟨fe3_call rfl (by decide) fun a w h => ?_, ?_⟩
    · have e24 : a.tmps.getD 24 undef = Fe.oneF.v := h.dep 24 (by kernel_rfl)
      have e24x : a.tmps[24]?.getD undef = Fe.oneF.v := by simpa using e24
      have hb := h.base
      refine ⟨wants_none rfl, 19, #[Fe.oneF.v], ?_, ?_⟩
      · clear h hb e24
        go_simp
      · refine (neg_any Fe.oneF w (HT.out.grown hb.g) one_right.ok).mono ?_
        intro e w1 hp
        obtain ⟨rfl, hg⟩ := feOut_is hp
        exact ⟨_, rfl, hg, rfl⟩
    refine ⟨fe3_call rfl (by decide) fun a w h => ?_, ?_⟩
    · have e25 : a.tmps.getD 25 undef = (Fe.negF Fe.oneF).v := h.dep 25 (by kernel_rfl)
      have e25x : a.tmps[25]?.getD undef = (Fe.negF Fe.oneF).v := by simpa using e25
      have hb := h.base
      refine ⟨wants_none rfl, 12, #[(Fe.negF Fe.oneF).v], ?_, ?_⟩
      · clear h hb e25
        go_simp
      · refine (put_any (Fe.negF Fe.oneF) w (Fe.neg_right _).ok).mono ?_
        intro e w1 hp
        obtain ⟨NB, rfl, hg, _, hbb⟩ := hp
        exact ⟨_, rfl, hg, ⟨NB, rfl, _, hbb⟩⟩
    refine ⟨fe3_call rfl (by decide) fun a w h => ?_, ?_⟩
    · have hb := h.base
      refine ⟨wants_none rfl, 17, #[.int .i64 (-1)], ?_, ?_⟩
      · clear h hb
        go_simp
      · refine (edge_m1 w).mono ?_
        intro e w1 hp
        obtain ⟨NB, rfl, hg, _, hbb⟩ := hp
        exact ⟨_, rfl, hg, ⟨NB, rfl, _, hbb⟩⟩
    refine ⟨fe3_call rfl (by decide) fun a w h => ?_, ?_⟩
    · obtain ⟨B26, e26, T26, b26⟩ : ∃ NB, a.tmps.getD 26 undef = .slice (some ⟨NB, 0, none⟩) 32 32 ∧ ∃ T, Blk w NB T (bytesV ((Fe.m (Fe.negF Fe.oneF) : Int))) := h.dep 26 (by kernel_rfl)
      have e26x : a.tmps[26]?.getD undef = .slice (some ⟨B26, 0, none⟩) 32 32 := by simpa using e26
      obtain ⟨B27, e27, T27, b27⟩ : ∃ NB, a.tmps.getD 27 undef = .slice (some ⟨NB, 0, none⟩) 32 32 ∧ ∃ T, Blk w NB T (bytesV ((57896044618658097711785492504343953926634992332820282019728792003956564819948 : Int))) := h.dep 27 (by kernel_rfl)
      have e27x : a.tmps[27]?.getD undef = .slice (some ⟨B27, 0, none⟩) 32 32 := by simpa using e27
      have hb := h.base
      refine ⟨wants_none rfl, 11, #[.slice (some ⟨B26, 0, none⟩) 32 32, .slice (some ⟨B27, 0, none⟩) 32 32], ?_, ?_⟩
      · clear h hb e26 e27 b26 b27
        go_simp
      · refine (sameBytes_val _ _ _ _ _ _ true w b26 b27 (by rw [negone_m]; decide +kernel)).mono ?_
        intro e w1 hp
        obtain ⟨rfl, hg⟩ := hp
        exact ⟨_, rfl, hg, rfl⟩
    refine ⟨fe3_value rfl (by decide) fun a w h => ?_, ?_⟩
    · have e28 : a.tmps.getD 28 undef = .bool true := h.dep 28 (by kernel_rfl)
      refine ⟨wants_none rfl, .bool true, w, ?_, gb_refl _ _, rfl⟩
      clear h
      simp only [execOp, Act.eval, e28]
      go_simp
    refine ⟨fe3_value rfl (by decide) fun a w h => ?_, ?_⟩
    · have e29 : a.tmps.getD 29 undef = .bool true := h.dep 29 (by kernel_rfl)
      have e2 : a.tmps.getD 2 undef = .bool false := h.rest 2 (by kernel_rfl)
      refine ⟨wants_some (d := 29) rfl rfl (by rw [h.size]; show 29 < 50; decide) e29, .bool false, w, ?_, gb_refl _ _, rfl⟩
      clear h
      simp only [execOp, Act.eval, e2]
      go_simp
    refine ⟨fe3_value rfl (by decide) fun a w h => ?_, ?_⟩
    · have e29 : a.tmps.getD 29 undef = .bool true := h.dep 29 (by kernel_rfl)
      have e30 : a.tmps.getD 30 undef = .bool false := h.dep 30 (by kernel_rfl)
      refine ⟨wants_some (d := 29) rfl rfl (by rw [h.size]; show 29 < 50; decide) e29, .bool true, w, ?_, gb_refl _ _, rfl⟩
      clear h
      simp only [execOp, Act.eval, e30]
      go_simp
    refine ⟨fe3_value rfl (by decide) fun a w h => ?_, ?_⟩
    · have e29 : a.tmps.getD 29 undef = .bool true := h.dep 29 (by kernel_rfl)
      have e31 : a.tmps.getD 31 undef = .bool true := h.dep 31 (by kernel_rfl)
      refine ⟨wants_none rfl, .bool true, w, ?_, gb_refl _ _, rfl⟩
      clear h
      simp only [execOp, Act.eval, e29, e31]
      go_simp
    refine ⟨fe3_value rfl (by decide) fun a w h => ?_, ?_⟩
    · have e32 : a.tmps.getD 32 undef = .bool true := h.dep 32 (by kernel_rfl)
      refine ⟨wants_none rfl, .bool true, w, ?_, gb_refl _ _, rfl⟩
      clear h
      simp only [execOp, Act.eval, e32]
      go_simp
    refine ⟨fe3_value rfl (by decide) fun a w h => ?_, ?_⟩
    · have e33 : a.tmps.getD 33 undef = .bool true := h.dep 33 (by kernel_rfl)
      have e4 : a.tmps.getD 4 undef = .bool true := h.rest 4 (by kernel_rfl)
      refine ⟨wants_some (d := 33) rfl rfl (by rw [h.size]; show 33 < 50; decide) e33, .bool true, w, ?_, gb_refl _ _, rfl⟩
      clear h
      simp only [execOp, Act.eval, e4]
      go_simp
    refine ⟨fe3_value rfl (by decide) fun a w h => ?_, ?_⟩
    · have e33 : a.tmps.getD 33 undef = .bool true := h.dep 33 (by kernel_rfl)
      have e34 : a.tmps.getD 34 undef = .bool true := h.dep 34 (by kernel_rfl)
      refine ⟨wants_none rfl, .bool true, w, ?_, gb_refl _ _, rfl⟩
      clear h
      simp only [execOp, Act.eval, e33, e34]
      go_simp
    refine ⟨fe3_value rfl (by decide) fun a w h => ?_, ?_⟩
    · have e35 : a.tmps.getD 35 undef = .bool true := h.dep 35 (by kernel_rfl)
      refine ⟨wants_none rfl, .bool true, w, ?_, gb_refl _ _, rfl⟩
      clear h
      simp only [execOp, Act.eval, e35]
      go_simp
    refine ⟨fe3_value rfl (by decide) fun a w h => ?_, ?_⟩
    · have e36 : a.tmps.getD 36 undef = .bool true := h.dep 36 (by kernel_rfl)
      have e3 : a.tmps.getD 3 undef = .pointer (some ⟨v5.heap.size, 0, none⟩) := h.rest 3 (by kernel_rfl)
      have hb := h.base.e (v5.heap.size, q4) (by simp)
      have c0 : w.cell? ⟨v5.heap.size, 0, none⟩ = some (.int .u64 q4.x0) := hb.cell (i := 0) rfl
      have c1 : w.cell? ⟨v5.heap.size, 1, none⟩ = some (.int .u64 q4.x1) := hb.cell (i := 1) rfl
      have c2 : w.cell? ⟨v5.heap.size, 2, none⟩ = some (.int .u64 q4.x2) := hb.cell (i := 2) rfl
      have c3 : w.cell? ⟨v5.heap.size, 3, none⟩ = some (.int .u64 q4.x3) := hb.cell (i := 3) rfl
      have c4 : w.cell? ⟨v5.heap.size, 4, none⟩ = some (.int .u64 q4.x4) := hb.cell (i := 4) rfl
      refine ⟨wants_some (d := 36) rfl rfl (by rw [h.size]; show 36 < 50; decide) e36, .agg #[.int .u64 q4.x0, .int .u64 q4.x1, .int .u64 q4.x2, .int .u64 q4.x3, .int .u64 q4.x4], w, ?_, gb_refl _ _, rfl⟩
      clear h hb
      simp only [execOp, Act.eval, e3]
      go_simp
    refine ⟨fe3_call rfl (by decide) fun a w h => ?_, ?_⟩
    · have e36 : a.tmps.getD 36 undef = .bool true := h.dep 36 (by kernel_rfl)
      have hb := h.base
      refine ⟨wants_some (d := 36) rfl rfl (by rw [h.size]; show 36 < 50; decide) e36, 18, #[.int .u64 2], ?_, ?_⟩
      · clear h hb
        go_simp
      · refine (small2 w).mono ?_
        intro e w1 hp
        obtain ⟨rfl, hg⟩ := feOut_is hp
        exact ⟨_, rfl, hg, rfl⟩
    refine ⟨fe3_call rfl (by decide) fun a w h => ?_, ?_⟩
    · have e36 : a.tmps.getD 36 undef = .bool true := h.dep 36 (by kernel_rfl)
      have e37 : a.tmps.getD 37 undef = q4.v := h.dep 37 (by kernel_rfl)
      have e37x : a.tmps[37]?.getD undef = q4.v := by simpa using e37
      have e38 : a.tmps.getD 38 undef = fe2.v := h.dep 38 (by kernel_rfl)
      have e38x : a.tmps[38]?.getD undef = fe2.v := by simpa using e38
      have hb := h.base
      refine ⟨wants_some (d := 36) rfl rfl (by rw [h.size]; show 36 < 50; decide) e36, 21, #[q4.v, fe2.v], ?_, ?_⟩
      · clear h hb e37 e38
        go_simp
      · refine (same_val q4 fe2 true w okq4 fe2_right.ok (by rw [H4.out, fe2_m]; decide)).mono ?_
        intro e w1 hp
        obtain ⟨rfl, hg⟩ := hp
        exact ⟨_, rfl, hg, rfl⟩
    refine ⟨fe3_value rfl (by decide) fun a w h => ?_, ?_⟩
    · have e36 : a.tmps.getD 36 undef = .bool true := h.dep 36 (by kernel_rfl)
      have e39 : a.tmps.getD 39 undef = .bool true := h.dep 39 (by kernel_rfl)
      refine ⟨wants_none rfl, .bool true, w, ?_, gb_refl _ _, rfl⟩
      clear h
      simp only [execOp, Act.eval, e36, e39]
      go_simp
    refine ⟨fe3_value rfl (by decide) fun a w h => ?_, ?_⟩
    · have e40 : a.tmps.getD 40 undef = .bool true := h.dep 40 (by kernel_rfl)
      refine ⟨wants_none rfl, .bool true, w, ?_, gb_refl _ _, rfl⟩
      clear h
      simp only [execOp, Act.eval, e40]
      go_simp
    refine ⟨fe3_value rfl (by decide) fun a w h => ?_, ?_⟩
    · have e41 : a.tmps.getD 41 undef = .bool true := h.dep 41 (by kernel_rfl)
      have e6 : a.tmps.getD 6 undef = .bool false := h.rest 6 (by kernel_rfl)
      refine ⟨wants_some (d := 41) rfl rfl (by rw [h.size]; show 41 < 50; decide) e41, .bool false, w, ?_, gb_refl _ _, rfl⟩
      clear h
      simp only [execOp, Act.eval, e6]
      go_simp
    refine ⟨fe3_value rfl (by decide) fun a w h => ?_, ?_⟩
    · have e41 : a.tmps.getD 41 undef = .bool true := h.dep 41 (by kernel_rfl)
      have e42 : a.tmps.getD 42 undef = .bool false := h.dep 42 (by kernel_rfl)
      refine ⟨wants_some (d := 41) rfl rfl (by rw [h.size]; show 41 < 50; decide) e41, .bool true, w, ?_, gb_refl _ _, rfl⟩
      clear h
      simp only [execOp, Act.eval, e42]
      go_simp
    refine ⟨fe3_value rfl (by decide) fun a w h => ?_, ?_⟩
    · have e41 : a.tmps.getD 41 undef = .bool true := h.dep 41 (by kernel_rfl)
      have e43 : a.tmps.getD 43 undef = .bool true := h.dep 43 (by kernel_rfl)
      refine ⟨wants_none rfl, .bool true, w, ?_, gb_refl _ _, rfl⟩
      clear h
      simp only [execOp, Act.eval, e41, e43]
      go_simp
    refine ⟨fe3_value rfl (by decide) fun a w h => ?_, ?_⟩
    · have e44 : a.tmps.getD 44 undef = .bool true := h.dep 44 (by kernel_rfl)
      refine ⟨wants_none rfl, .bool true, w, ?_, gb_refl _ _, rfl⟩
      clear h
      simp only [execOp, Act.eval, e44]
      go_simp
    refine ⟨fe3_value rfl (by decide) fun a w h => ?_, ?_⟩
    · have e45 : a.tmps.getD 45 undef = .bool true := h.dep 45 (by kernel_rfl)
      refine ⟨wants_some (d := 45) rfl rfl (by rw [h.size]; show 45 < 50; decide) e45, .agg #[.int .u64 0, .int .u64 0, .int .u64 0, .int .u64 0, .int .u64 0], w, ?_, gb_refl _ _, rfl⟩
      clear h
      go_simp
    refine ⟨fe3_call rfl (by decide) fun a w h => ?_, ?_⟩
    · have e45 : a.tmps.getD 45 undef = .bool true := h.dep 45 (by kernel_rfl)
      have e46 : a.tmps.getD 46 undef = Fe.zeroF.v := h.dep 46 (by kernel_rfl)
      have e46x : a.tmps[46]?.getD undef = Fe.zeroF.v := by simpa using e46
      have hb := h.base
      refine ⟨wants_some (d := 45) rfl rfl (by rw [h.size]; show 45 < 50; decide) e45, 23, #[Fe.zeroF.v], ?_, ?_⟩
      · clear h hb e46
        go_simp
      · refine (invert_any Fe.zeroF w zero_right.ok).mono ?_
        intro e w1 hp
        obtain ⟨rfl, hg⟩ := feOut_is hp
        exact ⟨_, rfl, hg, rfl⟩
    refine ⟨fe3_call rfl (by decide) fun a w h => ?_, ?_⟩
    · have e45 : a.tmps.getD 45 undef = .bool true := h.dep 45 (by kernel_rfl)
      have e47 : a.tmps.getD 47 undef = (invF Fe.zeroF).v := h.dep 47 (by kernel_rfl)
      have e47x : a.tmps[47]?.getD undef = (invF Fe.zeroF).v := by simpa using e47
      have hb := h.base
      refine ⟨wants_some (d := 45) rfl rfl (by rw [h.size]; show 45 < 50; decide) e45, 22, #[(invF Fe.zeroF).v], ?_, ?_⟩
      · clear h hb e47
        go_simp
      · refine (zero_val (invF Fe.zeroF) true w (inv_right _).ok (by rw [inv0_m]; decide)).mono ?_
        intro e w1 hp
        obtain ⟨rfl, hg⟩ := hp
        exact ⟨_, rfl, hg, rfl⟩
    refine ⟨fe3_value rfl (by decide) fun a w h => ?_, ?_⟩
    · have e45 : a.tmps.getD 45 undef = .bool true := h.dep 45 (by kernel_rfl)
      have e48 : a.tmps.getD 48 undef = .bool true := h.dep 48 (by kernel_rfl)
      refine ⟨wants_none rfl, .bool true, w, ?_, gb_refl _ _, rfl⟩
      clear h
      simp only [execOp, Act.eval, e45, e48]
      go_simp
    refine ⟨fe3_value rfl (by decide) fun a w h => ?_, ?_⟩
    · have e49 : a.tmps.getD 49 undef = .bool true := h.dep 49 (by kernel_rfl)
      refine ⟨wants_none rfl, .bool true, w, ?_, gb_refl _ _, rfl⟩
      clear h
      simp only [execOp, Act.eval, e49]
      go_simp
    trivial
  · intro a w hB hsz hdf hrest hslots hmems
    have e0 : a.tmps.getD 0 undef = .bool true := hslots 0 (by kernel_rfl)
    have G := hB.g
    replace hdf : a.defers = [] := hdf
    clear hB hsz hrest hslots hmems
    have e0x : a.tmps[0]?.getD undef = .bool true := by simpa using e0
    go_wp2_with fail
    refine bodyPost_ret (v := .bool true) ?_ hdf ⟨rfl, G⟩
    simp [results, Tryz.results5, go_sem, e0x]
end Go.Proofs.YtcmnecnbcohaeaaGreatDoor

/- The laws of the field: what each call tells, of elements and of the document's numbers. -/
namespace Go.Proofs.YtcmnecnbcohaeaaGreatDoor
open Go.RowKit Ns Ow
namespace Nr
theorem P_is : Fe.P = 2 ^ 255 - 19 := by decide
theorem m_lt (a : Fe) : a.m < Fe.P := by
  have h0 : (0 : Int) < (Fe.P : Int) := by rw [P_is]; decide
  have := Int.emod_lt_of_pos a.V h0
  have h1 := Int.emod_nonneg a.V (Int.ne_of_gt h0)
  unfold Fe.m
  omega
theorem num_mod (v : Nat) : num (v % Fe.P) = num v := num_congr (by rw [P_is, Nat.mod_mod])
theorem num_val {v : Nat} (h : v < Fe.P) : V (num v) = v := by
  rw [num_V, ← P_is]
  exact Nat.mod_eq_of_lt h
theorem num_inj {u v : Nat} (hu : u < Fe.P) (hv : v < Fe.P) : num u = num v ↔ u = v :=
  ⟨fun h => by rw [← num_val hu, ← num_val hv, h], fun h => by rw [h]⟩
theorem num_zero : num 0 = zeros := by decide
theorem num_low {v : Nat} (h : v < Fe.P) : (num v).getD 0 0 = v % 65536 := by
  have e := num_val h
  unfold num
  rw [P_is] at h
  rw [Nat.mod_eq_of_lt h]
  rfl
/-- are the limbs right? -/
def rB (a : Fe) : Bool := (feN a).all fun n => decide (n < 4503599627370496)
theorem rB_right {a : Fe} (h : a.Ok) : rB a = true → a.Right := by
  intro hr
  unfold rB at hr
  rw [feN_all] at hr
  simp only [Bool.and_eq_true, decide_eq_true_eq] at hr
  obtain ⟨n0, n1, n2, n3, n4, _, _, _, _, _⟩ := h
  constructor <;> omega
theorem feN_64 {a : Fe} (h : a.Ok) (j : Nat) : (feN a).getD j 0 < 18446744073709551616 := by
  obtain ⟨n0, n1, n2, n3, n4, l0, l1, l2, l3, l4⟩ := h
  rcases j with _ | _ | _ | _ | _ | j
  · show a.x0.toNat < _; omega
  · show a.x1.toNat < _; omega
  · show a.x2.toNat < _; omega
  · show a.x3.toNat < _; omega
  · show a.x4.toNat < _; omega
  · show (0 : Nat) < _; omega
theorem c_right (a : Fe) (w : World) (h : a.Ok) : Calls Tryz.prog 29 #[a.v] w fun e w' => e = .returned (.bool (rB a)) ∧ w.grownBy w' none := by
  rw [feN_v h]
  exact right_any (feN a) w rfl (feN_64 h)
theorem c_from (a : Fe) (w : World) (h : a.Right) : Calls Tryz.prog 30 #[a.v] w (Out (num a.m) w) := by
  rw [feN_v h.ok, ← feN_m h.ok]
  exact from_any (feN a) w rfl (feN_lt h)
theorem c_add (u v : Nat) (w : World) (hu : u < Fe.P) (hv : v < Fe.P) : Calls Tryz.prog 39 #[nV (num u), nV (num v)] w (Out (num (u + v)) w) := by
  have := add_any (num u) (num v) w (num_whole _) (num_whole _) (num_len _) (num_len _)
  rwa [num_val hu, num_val hv] at this
theorem c_mul (u v : Nat) (w : World) (hu : u < Fe.P) (hv : v < Fe.P) : Calls Tryz.prog 41 #[nV (num u), nV (num v)] w (Out (num (u * v)) w) := by
  have := mul_any (num u) (num v) w (num_whole _) (num_whole _) (num_len _) (num_len _)
  rwa [num_val hu, num_val hv] at this
theorem sub_c1 {u v : Nat} (hv : v < Fe.P) (h : v ≤ u) : num (u - v) = num (u + (Fe.P - v)) := by
  apply num_congr
  rw [show u + (Fe.P - v) = u - v + Fe.P by omega, P_is, Nat.add_mod_right]
theorem c_sub (u v : Nat) (w : World) (hu : u < Fe.P) (hv : v < Fe.P) : Calls Tryz.prog 40 #[nV (num u), nV (num v)] w (Out (num (u + (Fe.P - v))) w) := by
  rcases Nat.lt_or_ge u v with h | h
  · have := sub_lt (num u) (num v) w (num_whole _) (num_whole _) (num_len _) (num_len _) (by rw [num_val hu, num_val hv]; exact h) (by rw [num_val hv, Pp_V, ← P_is]; exact hv)
    rw [num_val hu, num_val hv, Pp_V, ← P_is, show u + Fe.P - v = u + (Fe.P - v) by omega] at this
    exact this
  · have := sub_ge (num u) (num v) w (num_whole _) (num_whole _) (num_len _) (num_len _) (by rw [num_val hu, num_val hv]; exact h)
    rw [num_val hu, num_val hv, sub_c1 hv h] at this
    exact this
theorem c_odd (u : Nat) (w : World) (hu : u < Fe.P) : Calls Tryz.prog 44 #[nV (num u)] w fun e w' => e = .returned (.bool (decide (u % 2 = 1))) ∧ w.grownBy w' none := by
  have := odd_any (num u) w (num_whole _) (num_len _)
  rw [num_low hu] at this
  rwa [Nat.mod_mod_of_dvd u (by decide : 2 ∣ 65536)] at this
/-- an element that is the document's number -/
theorem c_is (r : Fe) (v : Nat) (w : World) (hr : r.Right) (hm : r.m = v % Fe.P) : Calls Tryz.prog 10 #[r.v, nV (num v)] w fun e w' => e = .returned (.bool true) ∧ w.grownBy w' none :=
  is_yes r v w hr (by rw [hm, num_mod])
theorem is_add {a b : Fe} (w : World) (ha : a.Right) (hb : b.Right) : Calls Tryz.prog 10 #[(Fe.addF a b).v, nV (num (a.m + b.m))] w fun e w' => e = .returned (.bool true) ∧ w.grownBy w' none := c_is (Fe.addF a b) (a.m + b.m) w (Fe.add_right a b) (Fe.add_m ha hb)
theorem is_sub {a b : Fe} (w : World) (ha : a.Right) (hb : b.Right) : Calls Tryz.prog 10 #[(Fe.subF a b).v, nV (num (a.m + (Fe.P - b.m)))] w fun e w' => e = .returned (.bool true) ∧ w.grownBy w' none := c_is (Fe.subF a b) (a.m + (Fe.P - b.m)) w (Fe.sub_right a b) (Fe.sub_m ha hb)
theorem is_mul {a b : Fe} (w : World) (ha : a.Right) (hb : b.Right) : Calls Tryz.prog 10 #[(Fe.mulF a b).v, nV (num (a.m * b.m))] w fun e w' => e = .returned (.bool true) ∧ w.grownBy w' none := c_is (Fe.mulF a b) (a.m * b.m) w (Fe.mul_right a b) (Fe.mul_m ha hb)
theorem is_sq {a : Fe} (w : World) (ha : a.Right) : Calls Tryz.prog 10 #[(Fe.sqF a).v, nV (num (a.m * a.m))] w fun e w' => e = .returned (.bool true) ∧ w.grownBy w' none := c_is (Fe.sqF a) (a.m * a.m) w (Fe.sq_right a) (Fe.sq_m ha)
end Nr
end Go.Proofs.YtcmnecnbcohaeaaGreatDoor
