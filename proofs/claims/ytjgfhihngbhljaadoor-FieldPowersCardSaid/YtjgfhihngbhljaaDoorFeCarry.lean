/- field: carry, and the sums of products: what the program's own functions answer. -/
import Derived.Test.YtjgfhihngbhljaaDoorProg
import Derived.Test.YtjgfhihngbhljaaDoorFeRoot
import Derived.Test.YtjgfhihngbhljaaDoorFeMul64
import Derived.Test.YtjgfhihngbhljaaDoorShaMem
import Derived.WalkKit
import Derived.Lib.Hide
import Derived.WalkSpells
import Derived.WalkLawsBesides
import Derived.BigQuiet
import Derived.Deep.QuietTactic
import Derived.Deep.RegionHeld3
import Derived.StillTailTactics
import Derived.Outline
namespace Go.Proofs.YtjgfhihngbhljaaDoor
open Go.RowKit

def Fe.v (a : Fe) : Value := .agg #[.int .u64 a.x0, .int .u64 a.x1, .int .u64 a.x2, .int .u64 a.x3, .int .u64 a.x4]

theorem mask51 (x : Int) (h0 : 0 ≤ x) (h1 : x < 18446744073709551616) : bits .and .u64 x 2251799813685247 = x % 2251799813685248 := by
  obtain ⟨x, rfl⟩ := Int.eq_ofNat_of_zero_le h0
  have e : (2251799813685247 : Int) = ((2251799813685247 : Nat) : Int) := rfl
  rw [e, u64_and_nat _ _ (by omega) (by decide), show (2251799813685247 : Nat) = 2 ^ 51 - 1 from rfl, Nat.and_two_pow_sub_one_eq_mod]
  omega
theorem wrapw (x : Int) : IntKind.u64.wrap x = Fe.w64 x := IntKind.wrap_u64 x
theorem carry_cell (x y : Int) (h0 : 0 ≤ x) (h1 : x < 18446744073709551616) (k0 : 0 ≤ y) (k1 : y < 18446744073709551616) :
    IntKind.u64.wrap (bits .and .u64 x 2251799813685247 + y / 2251799813685248) = x % 2251799813685248 + y / 2251799813685248 := by
  rw [mask51 x h0 h1, wrapw, Fe.w64_in] <;> omega
theorem carry_cell0 (x y : Int) (h0 : 0 ≤ x) (h1 : x < 18446744073709551616) (k0 : 0 ≤ y) (k1 : y < 18446744073709551616) :
    IntKind.u64.wrap (bits .and .u64 x 2251799813685247 + 19 * (y / 2251799813685248)) = x % 2251799813685248 + 19 * (y / 2251799813685248) := by
  rw [mask51 x h0 h1, wrapw, Fe.w64_in] <;> omega
set_option maxHeartbeats 400000 in
theorem carry_any (x0 x1 x2 x3 x4 : Int) (w : World) (n0 : 0 ≤ x0) (n1 : 0 ≤ x1) (n2 : 0 ≤ x2) (n3 : 0 ≤ x3) (n4 : 0 ≤ x4)
    (l0 : x0 < 18446744073709551616) (l1 : x1 < 18446744073709551616) (l2 : x2 < 18446744073709551616) (l3 : x3 < 18446744073709551616) (l4 : x4 < 18446744073709551616) :
    Calls Tryd.prog 31 #[.agg #[.int .u64 x0, .int .u64 x1, .int .u64 x2, .int .u64 x3, .int .u64 x4]] w fun e w' => e = .returned (Fe.carryF ⟨x0, x1, x2, x3, x4⟩).v ∧ w.grownBy w' none := by
  have H0 := Lib.hid (carry_cell0 x0 x4 n0 l0 n4 l4)
  have H1 := Lib.hid (carry_cell x1 x0 n1 l1 n0 l0)
  have H2 := Lib.hid (carry_cell x2 x1 n2 l2 n1 l1)
  have H3 := Lib.hid (carry_cell x3 x2 n3 l3 n2 l2)
  have H4 := Lib.hid (carry_cell x4 x3 n4 l4 n3 l3)
  go_enter Tryd.func31, Tryd.ntmps31
  go_wp2
  refine bodyPost_ret (v := (Fe.carryF ⟨x0, x1, x2, x3, x4⟩).v) ?_ rfl ⟨rfl, gb_alloc (gb_alloc (gb_refl _ _) _) _⟩
  simp [results, Tryd.results31, go_sem]
  rw [H0.out, H1.out, H2.out, H3.out, H4.out]
  rfl
theorem carry_fe (a : Fe) (w : World) (h : a.Ok) : Calls Tryd.prog 31 #[a.v] w fun e w' => e = .returned (Fe.carryF a).v ∧ w.grownBy w' none :=
  carry_any a.x0 a.x1 a.x2 a.x3 a.x4 w h.n0 h.n1 h.n2 h.n3 h.n4 h.l0 h.l1 h.l2 h.l3 h.l4

/-- a sum of products, as its two halves -/
def sumV (S : Int) : Value := .agg #[.int .u64 (S / 18446744073709551616), .int .u64 (S % 18446744073709551616)]
structure Is128 (S : Int) : Prop where
  n : 0 ≤ S
  l : S < 340282366920938463463374607431768211456
theorem rest_bits (h l : Int) (h0 : 0 ≤ h) (h1 : h < 18446744073709551616) (l0 : 0 ≤ l) (l1 : l < 18446744073709551616) :
    bits .or .u64 (IntKind.u64.wrap (h * 8192)) (l / 2251799813685248) = Fe.restS (h * 18446744073709551616 + l) := by
  obtain ⟨h, rfl⟩ := Int.eq_ofNat_of_zero_le h0
  obtain ⟨l, rfl⟩ := Int.eq_ofNat_of_zero_le l0
  have e1 : IntKind.u64.wrap ((h : Int) * 8192) = ((2 ^ 13 * (h % 2251799813685248) : Nat) : Int) := by rw [wrapw]; unfold Fe.w64; omega
  have e2 : (l : Int) / 2251799813685248 = ((l / 2251799813685248 : Nat) : Int) := by omega
  rw [e1, e2, u64_or_nat _ _ (by omega) (by omega), ← Nat.two_pow_add_eq_or_of_lt (by omega)]
  unfold Fe.restS Fe.w64
  omega
theorem limb_bits (h l : Int) (l0 : 0 ≤ l) (l1 : l < 18446744073709551616) : bits .and .u64 l 2251799813685247 = Fe.limbS (h * 18446744073709551616 + l) := by
  rw [mask51 l l0 l1]; unfold Fe.limbS; omega
set_option maxHeartbeats 400000 in
theorem limb_any (h l : Int) (w : World) (l0 : 0 ≤ l) (l1 : l < 18446744073709551616) :
    Calls Tryd.prog 47 #[.agg #[.int .u64 h, .int .u64 l]] w fun e w' => e = .returned (.int .u64 (Fe.limbS (h * 18446744073709551616 + l))) ∧ w' = w.alloc (.cells #[.int .u64 h, .int .u64 l] 53) := by
  have H0 := Lib.hid (limb_bits h l l0 l1)
  go_enter Tryd.func47, Tryd.ntmps47
  go_wp2
  go_ret
  exact ⟨by rw [H0.out]; rfl, rfl⟩
set_option maxHeartbeats 400000 in
theorem rest_any (h l : Int) (w : World) (h0 : 0 ≤ h) (h1 : h < 18446744073709551616) (l0 : 0 ≤ l) (l1 : l < 18446744073709551616) :
    Calls Tryd.prog 48 #[.agg #[.int .u64 h, .int .u64 l]] w fun e w' => e = .returned (.int .u64 (Fe.restS (h * 18446744073709551616 + l))) ∧ w' = w.alloc (.cells #[.int .u64 h, .int .u64 l] 53) := by
  have H0 := Lib.hid (rest_bits h l h0 h1 l0 l1)
  go_enter Tryd.func48, Tryd.ntmps48
  go_wp2
  go_ret
  exact ⟨by rw [H0.out]; rfl, rfl⟩
theorem add_step (h l a b : Int) :
    (l + a * b) % 18446744073709551616 = Fe.addS (h * 18446744073709551616 + l) a b % 18446744073709551616 ∧
    IntKind.u64.wrap (h + IntKind.u64.wrap (a * b / 18446744073709551616 + (l + a * b % 18446744073709551616) / 18446744073709551616)) = Fe.addS (h * 18446744073709551616 + l) a b / 18446744073709551616 := by
  rw [wrapw, wrapw]
  unfold Fe.addS Fe.w64
  generalize a * b = p at *
  omega
set_option maxHeartbeats 400000 in
theorem wadd_any (B : Nat) (h l a b : Int) (w : World) (T : TypeId) (l0 : 0 ≤ l)
    (a0 : 0 ≤ a) (a1 : a < 18446744073709551616) (b0 : 0 ≤ b) (b1 : b < 18446744073709551616) (hb : Blk w B T [.int .u64 h, .int .u64 l]) :
    Calls Tryd.prog 49 #[.pointer (some ⟨B, 0, none⟩), .int .u64 a, .int .u64 b] w fun e w' => e = .returned (.tuple #[]) ∧ w.grownBy w' (some B) ∧
      Blk w' B T [.int .u64 (Fe.addS (h * 18446744073709551616 + l) a b / 18446744073709551616), .int .u64 (Fe.addS (h * 18446744073709551616 + l) a b % 18446744073709551616)] := by
  have H := Lib.hid (add_step h l a b)
  have q0 : 0 ≤ a * b % 18446744073709551616 := by omega
  have c0 := hb.cell (i := 0) rfl
  have c1 := hb.cell (i := 1) rfl
  have f0 := hb.free 0
  have f1 := hb.free 1
  go_enter Tryd.func49, Tryd.ntmps49
  go_wp2_with (first | (go_at_call 54; refine (mul64 _ _ a0 b0 a1 b1 _).mono ?_; rintro e w' ⟨rfl, rfl⟩) | simp only [add64 _ _ l0 q0])
  go_end0
  refine ⟨rfl, gb_set (gb_set (gb_refl _ _) _ _) _ _, ?_⟩
  rw [H.out.1, H.out.2]
  exact (hb.set 1 _).set 0 _

/-- pairs, as the cells of a row -/
def flat : List (Int × Int) → List Value
  | [] => []
  | p :: r => .int .u64 p.1 :: .int .u64 p.2 :: flat r
theorem flat_get (ps : List (Int × Int)) (k : Nat) (h : k < ps.length) : (flat ps)[k * 2]? = some (.int .u64 (ps.getD k (0, 0)).1) ∧ (flat ps)[k * 2 + 1]? = some (.int .u64 (ps.getD k (0, 0)).2) := by
  induction ps generalizing k with
  | nil => simp at h
  | cons p r ih =>
    cases k with
    | zero => exact ⟨rfl, rfl⟩
    | succ k =>
      have := ih k (by simpa using h)
      rw [show (k + 1) * 2 = k * 2 + 1 + 1 by omega]
      simpa [flat] using this
def sumL (ps : List (Int × Int)) : Int := ps.foldl (fun S p => Fe.addS S p.1 p.2) 0
theorem sumL_snoc (ps : List (Int × Int)) (k : Nat) (h : k < ps.length) : sumL (ps.take (k + 1)) = Fe.addS (sumL (ps.take k)) (ps.getD k (0, 0)).1 (ps.getD k (0, 0)).2 := by
  have e : ps.getD k (0, 0) = ps[k] := by rw [List.getD_eq_getElem?_getD, List.getElem?_eq_getElem h]; rfl
  unfold sumL
  rw [List.take_succ_eq_append_getElem h, List.foldl_append, e]
  rfl
theorem addS_bd (S a b : Int) : 0 ≤ Fe.addS S a b ∧ Fe.addS S a b < 340282366920938463463374607431768211456 := by unfold Fe.addS; omega
theorem sumL_bd (ps : List (Int × Int)) : 0 ≤ sumL ps ∧ sumL ps < 340282366920938463463374607431768211456 := by
  rcases List.eq_nil_or_concat ps with rfl | ⟨l, x, rfl⟩
  · unfold sumL; simp
  · unfold sumL; rw [List.concat_eq_append, List.foldl_append]; exact addS_bd ..
theorem some_ne {a b : Nat} (h : a ≠ b) : some a ≠ some b := fun e => h (Option.some.inj e)
theorem halves (S : Int) : S / 18446744073709551616 * 18446744073709551616 + S % 18446744073709551616 = S := by omega
set_option maxHeartbeats 800000 in
theorem sumUp_any (PB n : Nat) (ps : List (Int × Int)) (w : World) (T : TypeId) (hn : ps.length = n) (hn2 : n ≤ 1000) (hb : Blk w PB T (flat ps))
    (hp : ∀ p ∈ ps, 0 ≤ p.1 ∧ p.1 < 18446744073709551616 ∧ 0 ≤ p.2 ∧ p.2 < 18446744073709551616) :
    Calls Tryd.prog 30 #[.slice (some ⟨PB, 0, none⟩) n n] w fun e w' => e = .returned (sumV (sumL ps)) ∧ w.grownBy w' none := by
  have hlt := hb.lt
  have Hn := Lib.hid hn; clear hn
  go_enter Tryd.func30, Tryd.ntmps30
  go_wp2
  go_loopw [8] (fun i wr => ∃ k : Nat, k ≤ n ∧ i = .int .i64 k ∧ w.grownBy wr none ∧ Blk wr PB T (flat ps) ∧ w.heap.size + 1 < wr.heap.size ∧
      Blk wr w.heap.size 53 [.int .u64 0, .int .u64 0] ∧
      Blk wr (w.heap.size + 1) 53 [.int .u64 (sumL (ps.take k) / 18446744073709551616), .int .u64 (sumL (ps.take k) % 18446744073709551616)]) (fun i _ => n - (intOf i).toNat)
  case atStart =>
    refine ⟨0, by omega, rfl, gb_alloc (gb_alloc (gb_refl _ _) _) _, (hb.alloc _).alloc _, by simp, ?_, ?_⟩
    · exact (Blk.new w [.int .u64 0, .int .u64 0] 53).alloc _
    · have := Blk.new (w.alloc (.cells #[.int .u64 0, .int .u64 0] 53)) [.int .u64 0, .int .u64 0] 53
      simpa [sumL] using this
  case round =>
    obtain ⟨k, hk, rfl, hg, hB, hsz, hR, hS⟩ := hrel
    by_cases hkn : k < n
    · have hkl : k < ps.length := by rw [Hn.out]; exact hkn
      have hsb := sumL_bd (ps.take k)
      have Hs := Lib.hid (sumL_snoc ps k hkl)
      have hget := flat_get ps k hkl
      have hmem : ps.getD k (0, 0) ∈ ps := by rw [List.getD_eq_getElem?_getD, List.getElem?_eq_getElem hkl]; exact List.getElem_mem hkl
      obtain ⟨p0, p1, p2, p3⟩ := hp _ hmem
      obtain ⟨S, hS0⟩ : ∃ S, S = sumL (ps.take k) := ⟨_, rfl⟩
      rw [← hS0] at hsb hS
      have HS0 := Lib.hid hS0; clear hS0
      obtain ⟨a, ha⟩ : ∃ a, a = (ps.getD k (0, 0)).1 := ⟨_, rfl⟩
      obtain ⟨b, hbb⟩ : ∃ b, b = (ps.getD k (0, 0)).2 := ⟨_, rfl⟩
      rw [← ha, ← hbb] at hget
      rw [← ha] at p0 p1
      rw [← hbb] at p2 p3
      have Ha := Lib.hid ha; clear ha
      have Hb := Lib.hid hbb; clear hbb
      have c0 := hB.cell hget.1
      have c1 := hB.cell hget.2
      clear hget hmem hkl
      have s0 : 0 ≤ S / 18446744073709551616 := by omega
      have s1 : S / 18446744073709551616 < 18446744073709551616 := by omega
      have s2 : 0 ≤ S % 18446744073709551616 := by omega
      go_wp2_with (go_at_call 49; refine (wadd_any (w.heap.size + 1) _ _ a b _ 53 s2 p0 p1 p2 p3 (hS.alloc _)).mono ?_; rintro e w1 ⟨rfl, hg1, hS1⟩)
      have hsz1 : w.heap.size + 1 < w1.heap.size := by have := hg1.size; simp at this; omega
      go_roundw
      case rel =>
        refine ⟨k + 1, by omega, by go_num, gb_then (gb_alloc hg _) hg1 (by omega), (hB.alloc _).grown hg1 (some_ne (by omega)), hsz1, (hR.alloc _).grown hg1 (some_ne (by omega)), ?_⟩
        rw [Hs.out, ← HS0.out, ← Ha.out, ← Hb.out]
        rw [halves] at hS1
        exact hS1
      case measure => simp [intOf]; omega
    · obtain rfl : k = n := by omega
      have e : ps.take k = ps := by rw [List.take_of_length_le]; rw [Hn.out]; omega
      rw [e] at hS
      clear e
      obtain ⟨S, hS0⟩ : ∃ S, S = sumL ps := ⟨_, rfl⟩
      rw [← hS0] at hS
      have HS0 := Lib.hid hS0; clear hS0
      have c0 := hS.cell (i := 0) rfl
      have c1 := hS.cell (i := 1) rfl
      have r0 := hR.cell (i := 0) rfl
      have r1 := hR.cell (i := 1) rfl
      have z0 := hR.free 0
      have z1 := hR.free 1
      go_wp2
      refine bodyPost_ret (v := .agg #[.int .u64 (S / 18446744073709551616), .int .u64 (S % 18446744073709551616)]) ?_ rfl ⟨by rw [← HS0.out]; rfl, ?_⟩
      · simp [results, Tryd.results30, go_sem, r0, r1]
      · exact gb_set_new (gb_set_new hg (Nat.le_refl _) _) (Nat.le_refl _) _
end Go.Proofs.YtjgfhihngbhljaaDoor
