/- field: bytes.Equal (the shelf's contract), Get. -/
import Derived.Shelf.Bytes.SlEqualAll
import Derived.Test.YtjgfhihngbhljaaDoorFeGet
namespace Go.Proofs.YtjgfhihngbhljaaDoor
open Go.RowKit Go.Shelf

def laysnb115_ren : Go.Shelf.Ren := ⟨fun | 115 => 51 | n => n, fun | 37 => 26 | 4 => 4 | 9 => 9 | 5 => 5 | n => n, fun | n => n⟩
theorem laysnb115 : Go.Proofs.Lays.nb115 Tryd.prog laysnb115_ren := {
  mixed := by kernel_rfl
  f115 := Tryd.func51.trans (congrArg some (by kernel_rfl))
  t4 := Tryd.underlying4
  a4 := Tryd.isAgg4
  z4 := Tryd.sizeOf4
  v4 := Tryd.zeroValue4
  t9 := Tryd.underlying9
  a9 := Tryd.isAgg9
  z9 := Tryd.sizeOf9
  v9 := Tryd.zeroValue9
  t37 := Tryd.underlying26
  a37 := Tryd.isAgg26
  z37 := Tryd.sizeOf26
  v37 := Tryd.zeroValue26
  t5 := Tryd.underlying5
  a5 := Tryd.isAgg5
  z5 := Tryd.sizeOf5
  v5 := Tryd.zeroValue5 }
def intsOf (x : Int) : List Int := (List.range 32).map fun i => x / 2 ^ (8 * i) % 256
theorem intsOf_get (x : Int) (i : Nat) (h : i < 32) : (intsOf x)[i]? = some (x / 2 ^ (8 * i) % 256) := by
  unfold intsOf; rw [List.getElem?_map, List.getElem?_range h]; rfl
theorem bytes_in {w : World} {B : Nat} {T : TypeId} {x : Int} (h : Blk w B T (bytesV x)) : Lib.BytesIn w (some ⟨B, 0, none⟩) 32 (intsOf x) :=
  Lib.BytesIn.of_cells fun i hi => by
    have hadd : (⟨B, 0, none⟩ : Addr).add i = ⟨B, i, none⟩ := by unfold Addr.add; split <;> simp_all
    have hi2 : i < 32 := by simpa [intsOf] using hi
    rw [hadd, h.cell (bytesV_get x i hi2)]
    have := intsOf_get x i hi2
    simp [List.getD, this, bytV]
theorem byte_bd (x : Int) (i : Nat) : 0 ≤ x / 2 ^ (8 * i) % 256 ∧ x / 2 ^ (8 * i) % 256 < 256 := ⟨Int.emod_nonneg _ (by decide), Int.emod_lt_of_pos _ (by decide)⟩
theorem bytesOf_same (x y : Int) (h0 : 0 ≤ x) (k0 : 0 ≤ y) (h1 : x < 2 ^ 256) (k1 : y < 2 ^ 256) : (Lib.bytesOf (intsOf x) == Lib.bytesOf (intsOf y)) = decide (x = y) := by
  rw [Bool.eq_iff_iff, beq_iff_eq, decide_eq_true_iff]
  constructor
  · intro h
    refine digits_same 32 x y h0 k0 h1 k1 fun i hi => ?_
    have e : (Lib.bytesOf (intsOf x))[i]? = (Lib.bytesOf (intsOf y))[i]? := by rw [h]
    unfold Lib.bytesOf at e
    rw [List.getElem?_map, List.getElem?_map, intsOf_get x i hi, intsOf_get y i hi] at e
    simp only [Option.map_some, Option.some.injEq] at e
    have e2 := congrArg UInt8.toNat e
    have bx := byte_bd x i
    have b_y := byte_bd y i
    generalize x / 2 ^ (8 * i) % 256 = p at *
    generalize y / 2 ^ (8 * i) % 256 = q at *
    rw [UInt8.toNat_ofNat', UInt8.toNat_ofNat'] at e2
    omega
  · rintro rfl; rfl
theorem equal_any (A B : Nat) (S T : TypeId) (x y : Int) (w : World) (h0 : 0 ≤ x) (k0 : 0 ≤ y) (h1 : x < 2 ^ 256) (k1 : y < 2 ^ 256) (hA : Blk w A S (bytesV x)) (hB : Blk w B T (bytesV y)) :
    Calls Tryd.prog 51 #[.slice (some ⟨A, 0, none⟩) 32 32, .slice (some ⟨B, 0, none⟩) 32 32] w fun e w' => e = .returned (.bool (decide (x = y))) ∧ w = w' := by
  refine (Any.bytes_Equal_all laysnb115 _ _ 32 32 32 32 (intsOf x) (intsOf y) w (by simp [intsOf]) (by simp [intsOf]) (bytes_in hA) (bytes_in hB)).mono ?_
  rintro e w' ⟨rfl, rfl⟩
  exact ⟨by rw [bytesOf_same x y h0 k0 h1 k1], rfl⟩
theorem wordOf_bytes (x : Int) : ∀ k, wordOf (fun i => x / 2 ^ (8 * i) % 256) k = x % 2 ^ (8 * k) := by
  intro k
  induction k with
  | zero => simp [wordOf]
  | succ k ih =>
    rw [wordOf, ih]
    have e : (2 : Int) ^ (8 * (k + 1)) = 2 ^ (8 * k) * 256 := by rw [show 8 * (k + 1) = 8 * k + 8 by omega, Int.pow_add]; rfl
    have hp : (0 : Int) < 2 ^ (8 * k) := Int.pow_pos (by decide)
    rw [e]
    generalize (2 : Int) ^ (8 * k) = p at *
    have h1 := Int.mul_ediv_add_emod x p
    have h2 := Int.mul_ediv_add_emod x (p * 256)
    have h3 : x / (p * 256) = x / p / 256 := by rw [Int.ediv_ediv_of_nonneg (by omega)]
    have h4 := Int.mul_ediv_add_emod (x / p) 256
    rw [h3] at h2
    have h5 : p * (x / p) = p * (256 * (x / p / 256) + x / p % 256) := by rw [h4]
    rw [Int.mul_add, ← Int.mul_assoc] at h5
    have h6 : x / p % 256 * p = p * (x / p % 256) := Int.mul_comm ..
    omega
theorem number_bytes (x : Int) (h0 : 0 ≤ x) (h1 : x < 2 ^ 256) : wordOf (fun i => x / 2 ^ (8 * i) % 256) 32 = x := by
  rw [wordOf_bytes x 32, Int.emod_eq_of_lt h0 h1]
set_option maxRecDepth 100000 in
set_option maxHeartbeats 1600000 in
theorem get_yes (B : Nat) (T : TypeId) (x : Int) (w : World) (h0 : 0 ≤ x) (h1 : x < 57896044618658097711785492504343953926634992332820282019728792003956564819949) (hb : Blk w B T (bytesV x)) :
    Calls Tryd.prog 32 #[.slice (some ⟨B, 0, none⟩) 32 32] w (RootOut (fromN x) true w) := by
  have h2 : x < 2 ^ 256 := by
    have e : (2 : Int) ^ 256 = 115792089237316195423570985008687907853269984665640564039457584007913129639936 := by decide
    omega
  have okf := (fromN_right h0 h2).ok
  have hm : (Fe.m (fromN x) : Int) = x := by rw [fromN_m]; omega
  have hlt := hb.lt
  have hof : ∀ W, w.grownBy W none → Calls Tryd.prog 50 #[.slice (some ⟨B, 0, none⟩) 32 32] W (FeOut (fromN x) W) := fun W hg => by
    have := ofBytes_any B (fun i => x / 2 ^ (8 * i) % 256) W (fun i => byte_bd x i) (fun i hi => (hb.grown hg (by simp)).cell (bytesV_get x i hi)) (Nat.lt_of_lt_of_le hlt hg.size)
    rwa [number_bytes x h0 h2] at this
  have HO := Lib.hid hof; clear hof
  have HM := Lib.hid hm; clear hm
  clear h1
  go_enter Tryd.func32, Tryd.ntmps32
  go_wp2_with fail
  refine (HO.out _ (gb_alloc (gb_refl _ _) _)).mono ?_
  rintro e v1 ⟨r, hr, rfl, hg1⟩
  have okr : r.Ok := by rw [hr.out]; exact okf
  have hR1 : Room5 v1 w.heap.size 24 := Room5.grown ⟨_, _, _, _, _, Blk.new w [.int .u64 0, .int .u64 0, .int .u64 0, .int .u64 0, .int .u64 0] _⟩ hg1 (by simp)
  have hg2 := gb_trans (gb_alloc (gb_refl w none) _) hg1
  go_wp2_with fail
  refine (put_any r _ okr).mono ?_
  rintro e v2 ⟨NB, rfl, hg3, hNB, hbn⟩
  rw [hr.out, HM.out] at hbn
  have hbx := hb.grown (gb_trans (gb_alloc hg2 _) hg3) (by simp)
  have hG2 : Blk v2 v1.heap.size 24 (feL r) := (Blk.new v1 (feL r) _).grown hg3 (by simp)
  obtain ⟨u0, u1, u2, u3, u4, hR2⟩ := (hR1.grown (World.grownBy_alloc v1 _ none) (by simp)).grown hg3 (by simp)
  have hg4 := gb_trans (gb_alloc hg2 _) hg3
  have c0 := hG2.cell (i := 0) rfl
  have c1 := hG2.cell (i := 1) rfl
  have c2 := hG2.cell (i := 2) rfl
  have c3 := hG2.cell (i := 3) rfl
  have c4 := hG2.cell (i := 4) rfl
  have t0 := hR2.cell (i := 0) rfl
  have t1 := hR2.cell (i := 1) rfl
  have t2 := hR2.cell (i := 2) rfl
  have t3 := hR2.cell (i := 3) rfl
  have t4 := hR2.cell (i := 4) rfl
  have f0 := hR2.free 0
  have f1 := hR2.free 1
  have f2 := hR2.free 2
  have f3 := hR2.free 3
  have f4 := hR2.free 4
  have heq := (equal_any NB B _ T x x v2 h0 h0 h2 h2 hbn hbx)
  rw [decide_eq_true rfl] at heq
  have HEQ := Lib.hid heq; clear heq
  go_wp2_with fail
  refine (HEQ.out).mono ?_
  rintro e v3 ⟨rfl, rfl⟩
  go_wp2_with fail
  refine bodyPost_ret (v := .tuple #[.agg #[.int .u64 r.x0, .int .u64 r.x1, .int .u64 r.x2, .int .u64 r.x3, .int .u64 r.x4], .bool true]) ?_ rfl ⟨r, hr, rfl, gb_set5 hg4 (Nat.le_refl _) _ _ _ _ _⟩
  simp [results, Tryd.results32, go_sem, t0, t1, t2, t3, t4]
set_option maxRecDepth 100000 in
set_option maxHeartbeats 1600000 in
theorem get_no (B : Nat) (T : TypeId) (x : Int) (w : World) (h0 : 0 ≤ x) (h1 : 57896044618658097711785492504343953926634992332820282019728792003956564819949 ≤ x) (h2 : x < 2 ^ 256) (hb : Blk w B T (bytesV x)) :
    Calls Tryd.prog 32 #[.slice (some ⟨B, 0, none⟩) 32 32] w (RootOut Fe.zeroF false w) := by
  have okf := (fromN_right h0 h2).ok
  obtain ⟨y, hy⟩ : ∃ y, y = x % 57896044618658097711785492504343953926634992332820282019728792003956564819949 := ⟨_, rfl⟩
  have hm : (Fe.m (fromN x) : Int) = y := by rw [fromN_m, hy]
  have k0 : 0 ≤ y := by omega
  have kl : y < 57896044618658097711785492504343953926634992332820282019728792003956564819949 := by omega
  have k1 : y < 2 ^ 256 := by
    have e : (2 : Int) ^ 256 = 115792089237316195423570985008687907853269984665640564039457584007913129639936 := by decide
    omega
  have kne : y ≠ x := by omega
  clear hy kl
  have hlt := hb.lt
  have hof : ∀ W, w.grownBy W none → Calls Tryd.prog 50 #[.slice (some ⟨B, 0, none⟩) 32 32] W (FeOut (fromN x) W) := fun W hg => by
    have := ofBytes_any B (fun i => x / 2 ^ (8 * i) % 256) W (fun i => byte_bd x i) (fun i hi => (hb.grown hg (by simp)).cell (bytesV_get x i hi)) (Nat.lt_of_lt_of_le hlt hg.size)
    rwa [number_bytes x h0 h2] at this
  have HO := Lib.hid hof; clear hof
  have HM := Lib.hid hm; clear hm
  clear h1
  go_enter Tryd.func32, Tryd.ntmps32
  go_wp2_with fail
  refine (HO.out _ (gb_alloc (gb_refl _ _) _)).mono ?_
  rintro e v1 ⟨r, hr, rfl, hg1⟩
  have okr : r.Ok := by rw [hr.out]; exact okf
  have hR1 : Room5 v1 w.heap.size 24 := Room5.grown ⟨_, _, _, _, _, Blk.new w [.int .u64 0, .int .u64 0, .int .u64 0, .int .u64 0, .int .u64 0] _⟩ hg1 (by simp)
  have hg2 := gb_trans (gb_alloc (gb_refl w none) _) hg1
  go_wp2_with fail
  refine (put_any r _ okr).mono ?_
  rintro e v2 ⟨NB, rfl, hg3, hNB, hbn⟩
  rw [hr.out, HM.out] at hbn
  have hbx := hb.grown (gb_trans (gb_alloc hg2 _) hg3) (by simp)
  have hG2 : Blk v2 v1.heap.size 24 (feL r) := (Blk.new v1 (feL r) _).grown hg3 (by simp)
  obtain ⟨u0, u1, u2, u3, u4, hR2⟩ := (hR1.grown (World.grownBy_alloc v1 _ none) (by simp)).grown hg3 (by simp)
  have hg4 := gb_trans (gb_alloc hg2 _) hg3
  have c0 := hG2.cell (i := 0) rfl
  have c1 := hG2.cell (i := 1) rfl
  have c2 := hG2.cell (i := 2) rfl
  have c3 := hG2.cell (i := 3) rfl
  have c4 := hG2.cell (i := 4) rfl
  have t0 := hR2.cell (i := 0) rfl
  have t1 := hR2.cell (i := 1) rfl
  have t2 := hR2.cell (i := 2) rfl
  have t3 := hR2.cell (i := 3) rfl
  have t4 := hR2.cell (i := 4) rfl
  have f0 := hR2.free 0
  have f1 := hR2.free 1
  have f2 := hR2.free 2
  have f3 := hR2.free 3
  have f4 := hR2.free 4
  have heq := (equal_any NB B _ T y x v2 k0 h0 k1 h2 hbn hbx)
  rw [decide_eq_false kne] at heq
  clear kne
  have HEQ := Lib.hid heq; clear heq
  go_wp2_with fail
  refine (HEQ.out).mono ?_
  rintro e v3 ⟨rfl, rfl⟩
  go_wp2_with fail
  refine bodyPost_ret (v := .tuple #[.agg #[.int .u64 0, .int .u64 0, .int .u64 0, .int .u64 0, .int .u64 0], .bool false]) ?_ rfl ⟨Fe.zeroF, Lib.hid rfl, rfl, gb_set5 hg4 (Nat.le_refl _) _ _ _ _ _⟩
  simp [results, Tryd.results32, go_sem, t0, t1, t2, t3, t4]
end Go.Proofs.YtjgfhihngbhljaaDoor
