/- The kit's SameDots: whether two slices hold the same dots. -/
import Derived.Test.YtohcoihdijemfaaVeMem
import Derived.WalkKit
import Derived.Lib.Hide
import Derived.WalkSpells
import Derived.WalkLawsBesides
import Derived.BigQuiet
import Derived.Deep.QuietTactic
import Derived.Outline
namespace Go.Proofs.Ytohcoihdijemfaa
open Go.RowKit Ve
namespace Ve
theorem dots_same {p q : List D} (h : p.length = q.length) (hi : ∀ i, i < p.length → p.getD i z0 = q.getD i z0) : p = q := by
  apply List.ext_getElem h
  intro i h1 h2
  have := hi i h1
  rwa [List.getD_eq_getElem?_getD, List.getD_eq_getElem?_getD, List.getElem?_eq_getElem h1, List.getElem?_eq_getElem h2] at this
theorem eq_dot (a b c d : Int) (w : World) : (Op.equalIn 10000 43 (.agg #[.int .i64 a, .int .i64 b]) (.agg #[.int .i64 c, .int .i64 d])).run Try.prog w = .ok (a == c && b == d) w := by
  have u3 := Try.underlying3
  have a3 := Try.isAgg3
  have z3 := Try.sizeOf3
  have hS : Try.prog.underlying 43 = some (.struct (Try.prog.fieldsOf 43)) := by kernel_rfl
  have hp : Try.prog.stoodInHeld 43 = false := by kernel_rfl
  rw [show (10000 : Nat) = 9999 + 1 from rfl, run_equalIn_agg w 9999 43 _ _ hS hp]
  simp only [Program.fieldsOf, Try.underlying43]
  go_simp
  by_cases h1 : a = c <;> by_cases h2 : b = d <;> simp [h1, h2]
set_option maxHeartbeats 400000 in
theorem sameDots_any (B1 B2 n m c1 c2 : Nat) (a1 a2 : Option Addr) (p q : List D) (w : World) (hn : p.length = n) (hm : q.length = m) (h1 : DotsAt w B1 a1 p) (h2 : DotsAt w B2 a2 q) (hc : n < 9223372036854775808) :
    Calls Try.prog 33 #[.slice a1 n c1, .slice a2 m c2] w fun e w' => e = .returned (.bool (decide (p = q))) ∧ w.grownBy w' none := by
  have H1 := Lib.hid h1; clear h1
  have H2 := Lib.hid h2; clear h2
  have HN := Lib.hid hn; clear hn
  have HM := Lib.hid hm; clear hm
  by_cases hnm : n = m
  · subst hnm
    go_enter Try.func33, Try.ntmps33
    go_wp2
    go_loopw [5] (fun i wr => ∃ k j : Nat, k ≤ n ∧ i = .int .i64 k ∧ wr = w.drewN j ∧ ∀ i, i < k → p.getD i z0 = q.getD i z0) (fun i _ => n - (intOf i).toNat)
    case atStart => exact ⟨0, 0, by omega, rfl, rfl, fun i hi => absurd hi (by omega)⟩
    case round =>
      obtain ⟨k, j, hk, rfl, rfl, heq⟩ := hrel
      have HE := Lib.hid heq; clear heq
      by_cases hlt : k < n
      · obtain ⟨pb, po, rfl, _, hcs⟩ := H1.out.cells.resolve_left (by rw [HN.out]; omega)
        obtain ⟨qb, qo, rfl, _, hds⟩ := H2.out.cells.resolve_left (by rw [HM.out]; omega)
        obtain ⟨k1, k2⟩ := hcs k (by rw [HN.out]; exact hlt)
        obtain ⟨k3, k4⟩ := hds k (by rw [HM.out]; exact hlt)
        clear hcs hds
        have i0 : (k : Int) < (n : Int) := by omega
        obtain ⟨x, y, hx⟩ : ∃ x y, p.getD k z0 = (x, y) := ⟨_, _, rfl⟩
        obtain ⟨x2, y2, hy⟩ : ∃ x y, q.getD k z0 = (x, y) := ⟨_, _, rfl⟩
        rw [hx] at k1 k2
        rw [hy] at k3 k4
        simp only at k1 k2 k3 k4
        have HXY := Lib.hid (And.intro hx hy); clear hx hy
        by_cases hxy : x = x2 ∧ y = y2
        · obtain ⟨rfl, rfl⟩ := hxy
          go_wp2_with fail
          go_region
          go_wp2
          go_roundw
          case rel => exact ⟨k + 1, j + 1, by omega, by go_num, rfl, fun i hi => by
            rcases Nat.lt_or_ge i k with h | h
            · exact HE.out i h
            · obtain rfl : i = k := by omega
              rw [HXY.out.1, HXY.out.2]⟩
          case measure => simp [intOf]; omega
        · have hpq : p ≠ q := fun e => hxy (by have h1 := HXY.out.1; rw [e, HXY.out.2] at h1; simpa using h1.symm)
          have HPQ : Hid (decide (p = q) = false) := decide_eq_false hpq
          clear hpq
          by_cases hx : x = x2
          · subst hx
            have hy : ¬ y = y2 := fun e => hxy ⟨rfl, e⟩
            clear hxy
            go_wp2_with fail
            have he : ∀ w, (Op.equalIn 10000 43 (.agg #[.int .i64 x, .int .i64 y]) (.agg #[.int .i64 x, .int .i64 y2])).run Try.prog w = .ok false w := fun w => by rw [eq_dot]; simp [hy]
            go_region
            clear he
            go_wp2
            go_ret
            exact ⟨by rw [HPQ.out]; rfl, ⟨rfl, rfl, rfl, Nat.le_refl _, fun _ _ _ => rfl⟩⟩
          · clear hxy
            go_wp2_with fail
            have he : ∀ w, (Op.equalIn 10000 43 (.agg #[.int .i64 x, .int .i64 y]) (.agg #[.int .i64 x2, .int .i64 y2])).run Try.prog w = .ok false w := fun w => by rw [eq_dot]; simp [hx]
            go_region
            clear he
            go_wp2
            go_ret
            exact ⟨by rw [HPQ.out]; rfl, ⟨rfl, rfl, rfl, Nat.le_refl _, fun _ _ _ => rfl⟩⟩
      · obtain rfl : k = n := by omega
        have hpq : p = q := dots_same (by rw [HN.out, HM.out]) (fun i hi => HE.out i (by rw [HN.out] at hi; exact hi))
        have HPQ : Hid (decide (p = q) = true) := decide_eq_true hpq
        clear hlt hpq
        go_wp2
        go_ret
        exact ⟨by rw [HPQ.out]; rfl, ⟨rfl, rfl, rfl, Nat.le_refl _, fun _ _ _ => rfl⟩⟩
  · have hne : ¬ (n : Int) = (m : Int) := by omega
    have hpq : p ≠ q := fun e => hnm (by rw [← HN.out, ← HM.out, e])
    have HPQ : Hid (decide (p = q) = false) := decide_eq_false hpq
    clear hpq hnm
    go_enter Try.func33, Try.ntmps33
    go_wp2
    go_ret
    exact ⟨by rw [HPQ.out]; rfl, gb_refl _ _⟩
end Ve
end Go.Proofs.Ytohcoihdijemfaa
