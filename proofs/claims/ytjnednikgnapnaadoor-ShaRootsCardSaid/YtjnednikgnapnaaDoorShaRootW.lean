/- sha's constants out of roots: numbers in memory; which one is above. -/
import Derived.Test.YtjnednikgnapnaaDoorShaRootD
import Derived.Test.YtjnednikgnapnaaDoorOwn
import Derived.WalkKit
import Derived.WalkSpells
import Derived.BigQuiet
import Derived.Deep.CutBlock
namespace Go.Proofs.YtjnednikgnapnaaDoor
open Go.RowKit Ow Ns
namespace Sha
def u32N (d : Nat) : Value := .int .u32 d
theorem u32_at {w : World} {g : Nat} {l : List Nat} (h : Blk w g 45 (l.map u32N)) (i : Nat) (hi : i < l.length) : w.cell? ⟨g, i, none⟩ = some (.int .u32 (l.getD i 0 : Nat)) := by
  refine h.cell ?_
  rw [List.getElem?_map, List.getElem?_eq_getElem hi, List.getD_eq_getElem?_getD, List.getElem?_eq_getElem hi]
  rfl
theorem getD_out (l : List Nat) (i : Nat) (h : l.length ≤ i) : l.getD i 0 = 0 := by
  rw [List.getD_eq_getElem?_getD, List.getElem?_eq_none h]; rfl
set_option maxHeartbeats 2000000 in
theorem above_any (A B : List Nat) (ga gb m n ca cb : Nat) (w : World) (hA : Blk w ga 45 (A.map u32N)) (hB : Blk w gb 45 (B.map u32N)) (hm : A.length = m) (hn : B.length = n) (hm2 : m ≤ 1000) (hn2 : n ≤ 1000) (wA : Whole A) (wB : Whole B) :
    Calls Tryd.prog 18 #[.slice (some ⟨ga, 0, none⟩) m ca, .slice (some ⟨gb, 0, none⟩) n cb] w fun e w' => e = .returned (.bool (decide (V B < V A))) ∧ w' = w := by
  have HA := Lib.hid (And.intro hA (And.intro hm wA))
  have HB := Lib.hid (And.intro hB (And.intro hn wB))
  clear hA hm wA hB hn wB
  obtain ⟨q, hq⟩ : ∃ q : Nat, q = max m n := ⟨_, rfl⟩
  have hqi : ((m : Int) < n → (q : Int) = n) ∧ (¬ (m : Int) < n → (q : Int) = m) := by omega
  have hq2 : m ≤ q ∧ n ≤ q ∧ q ≤ 1000 ∧ (q = m ∨ q = n) := by omega
  clear hq
  go_enter Tryd.func18, Tryd.ntmps18
  go_upto_region 1 with fail
  go_cut [5] from 8 to 13 (fun v wx => v = .int .i64 ((q : Int) - 1) ∧ wx = w)
  case first =>
    by_cases hmn : (m : Int) < n
    · have e := hqi.1 hmn
      go_wp2_with fail
      all_goals go_meet
      all_goals exact ⟨by rw [e], rfl⟩
    · have e := hqi.2 hmn
      go_wp2_with fail
      all_goals go_meet
      all_goals exact ⟨by rw [e], rfl⟩
  case rest =>
    obtain ⟨rfl, rfl⟩ := hcut
    clear hqi
    go_wp2_with fail
    go_loopw [5] (fun i wr => ∃ t : Nat, t ≤ q ∧ i = .int .i64 ((t : Int) - 1) ∧ Hid (wr = wc ∧ ∀ j, t ≤ j → A.getD j 0 = B.getD j 0)) (fun i _ => (intOf i + 1).toNat)
    case atStart => exact ⟨q, by omega, rfl, rfl, fun j hj => by rw [getD_out A j (by rw [HA.out.2.1]; omega), getD_out B j (by rw [HB.out.2.1]; omega)]⟩
    case round =>
      obtain ⟨t, ht, rfl, HI⟩ := hrel
      obtain rfl := HI.out.1
      cases t with
      | zero =>
        have HE := Lib.hid (V_same A B (fun j => HI.out.2 j (Nat.zero_le _)))
        have i0 : ¬ (((0 : Nat) : Int) - 1 ≥ 0) := by decide
        go_wp2
        go_ret
        exact ⟨by rw [HE.out]; simp, rfl⟩
      | succ k =>
        rw [show ((k + 1 : Nat) : Int) - 1 = (k : Int) by omega]
        have k0 : (k : Int) ≥ 0 := by omega
        obtain ⟨x, hx⟩ : ∃ x, A.getD k 0 = x := ⟨_, rfl⟩
        obtain ⟨y, hy⟩ : ∃ y, B.getD k 0 = y := ⟨_, rfl⟩
        by_cases hkm : k < m
        · have j0 : (k : Int) < (m : Int) := by omega
          have cA := u32_at HA.out.1 k (by rw [HA.out.2.1]; exact hkm)
          rw [hx] at cA
          by_cases hkn : k < n
          · have j1 : (k : Int) < (n : Int) := by omega
            have cB := u32_at HB.out.1 k (by rw [HB.out.2.1]; exact hkn)
            rw [hy] at cB
            by_cases hxy : x = y
            · have HN : Hid (∀ j, k ≤ j → A.getD j 0 = B.getD j 0) := fun j hj => by
                rcases Nat.lt_or_ge k j with h | h
                · exact HI.out.2 j h
                · obtain rfl : j = k := by omega
                  rw [hx, hy]; omega
              have hb1 : (((x : Nat) : Int) == ((y : Nat) : Int)) = true := by simp [hxy]
              have hb2 : (((x : Nat) : Int) != ((y : Nat) : Int)) = false := by simp [hxy]
              clear hx hy HI
              go_wp2
              exact ⟨⟨k, by omega, rfl, trivial, HN.out⟩, by show ((k : Int) - 1 + 1).toNat < ((k : Int) + 1).toNat; omega⟩
            · have HR : Hid (decide ((y : Nat) < x) = decide (V B < V A)) := by
                have hs : ∀ j, k < j → A.getD j 0 = B.getD j 0 := fun j hj => HI.out.2 j hj
                rcases Nat.lt_or_ge y x with h | h
                · rw [decide_eq_true h, decide_eq_true (V_above B A k HB.out.2.2 (fun j hj => (hs j hj).symm) (by rw [hx, hy]; exact h))]; exact rfl
                · rw [decide_eq_false (by omega), decide_eq_false (Nat.not_lt.2 (Nat.le_of_lt (V_above A B k HA.out.2.2 hs (by rw [hx, hy]; omega))))]; exact rfl
              have hb1 : (((x : Nat) : Int) == ((y : Nat) : Int)) = false := by simp; omega
              have hb2 : (((x : Nat) : Int) != ((y : Nat) : Int)) = true := by simp; omega
              clear hx hy HI
              go_wp2
              go_ret
              exact ⟨by rw [← HR.out]; congr 2 <;> simp, rfl⟩
          · have j1 : ¬ (k : Int) < (n : Int) := by omega
            rw [getD_out B k (by rw [HB.out.2.1]; omega)] at hy
            subst hy
            have hy := getD_out B k (by rw [HB.out.2.1]; omega)
            by_cases hxy : x = 0
            · have HN : Hid (∀ j, k ≤ j → A.getD j 0 = B.getD j 0) := fun j hj => by
                rcases Nat.lt_or_ge k j with h | h
                · exact HI.out.2 j h
                · obtain rfl : j = k := by omega
                  rw [hx, hy]; omega
              have hb1 : (((x : Nat) : Int) == ((0 : Nat) : Int)) = true := by simp [hxy]
              have hb2 : (((x : Nat) : Int) != ((0 : Nat) : Int)) = false := by simp [hxy]
              clear hx hy HI
              go_wp2
              exact ⟨⟨k, by omega, rfl, trivial, HN.out⟩, by show ((k : Int) - 1 + 1).toNat < ((k : Int) + 1).toNat; omega⟩
            · have HR : Hid (decide ((0 : Nat) < x) = decide (V B < V A)) := by
                have hs : ∀ j, k < j → A.getD j 0 = B.getD j 0 := fun j hj => HI.out.2 j hj
                rcases Nat.lt_or_ge 0 x with h | h
                · rw [decide_eq_true h, decide_eq_true (V_above B A k HB.out.2.2 (fun j hj => (hs j hj).symm) (by rw [hx, hy]; exact h))]; exact rfl
                · rw [decide_eq_false (by omega), decide_eq_false (Nat.not_lt.2 (Nat.le_of_lt (V_above A B k HA.out.2.2 hs (by rw [hx, hy]; omega))))]; exact rfl
              have hb1 : (((x : Nat) : Int) == ((0 : Nat) : Int)) = false := by simp; omega
              have hb2 : (((x : Nat) : Int) != ((0 : Nat) : Int)) = true := by simp; omega
              clear hx hy HI
              go_wp2
              go_ret
              exact ⟨by rw [← HR.out]; congr 2 <;> simp, rfl⟩
        · have j0 : ¬ (k : Int) < (m : Int) := by omega
          rw [getD_out A k (by rw [HA.out.2.1]; omega)] at hx
          subst hx
          have hx := getD_out A k (by rw [HA.out.2.1]; omega)
          by_cases hkn : k < n
          · have j1 : (k : Int) < (n : Int) := by omega
            have cB := u32_at HB.out.1 k (by rw [HB.out.2.1]; exact hkn)
            rw [hy] at cB
            by_cases hxy : y = 0
            · have HN : Hid (∀ j, k ≤ j → A.getD j 0 = B.getD j 0) := fun j hj => by
                rcases Nat.lt_or_ge k j with h | h
                · exact HI.out.2 j h
                · obtain rfl : j = k := by omega
                  rw [hx, hy]; omega
              have hb1 : (((0 : Nat) : Int) == ((y : Nat) : Int)) = true := by simp [hxy]
              have hb2 : (((0 : Nat) : Int) != ((y : Nat) : Int)) = false := by simp [hxy]
              clear hx hy HI
              go_wp2
              exact ⟨⟨k, by omega, rfl, trivial, HN.out⟩, by show ((k : Int) - 1 + 1).toNat < ((k : Int) + 1).toNat; omega⟩
            · have HR : Hid (decide ((y : Nat) < 0) = decide (V B < V A)) := by
                have hs : ∀ j, k < j → A.getD j 0 = B.getD j 0 := fun j hj => HI.out.2 j hj
                rcases Nat.lt_or_ge y 0 with h | h
                · rw [decide_eq_true h, decide_eq_true (V_above B A k HB.out.2.2 (fun j hj => (hs j hj).symm) (by rw [hx, hy]; exact h))]; exact rfl
                · rw [decide_eq_false (by omega), decide_eq_false (Nat.not_lt.2 (Nat.le_of_lt (V_above A B k HA.out.2.2 hs (by rw [hx, hy]; omega))))]; exact rfl
              have hb1 : (((0 : Nat) : Int) == ((y : Nat) : Int)) = false := by simp; omega
              have hb2 : (((0 : Nat) : Int) != ((y : Nat) : Int)) = true := by simp; omega
              clear hx hy HI
              go_wp2
              go_ret
              exact ⟨by rw [← HR.out]; congr 2 <;> simp, rfl⟩
          · exfalso; omega
end Sha
end Go.Proofs.YtjnednikgnapnaaDoor
